/-
  trammelref03's quotient: quotient and rest, signed and unsigned, with their traps. Conditions: both numbers are of w bits.
-/
import Derived.Test.YtbgcafkdojoilaaDoorNumDivide
namespace Go.Proofs.YtbgcafkdojoilaaDoor.Num
open Go.RowKit

theorem results_tmp4 {fn : Func} {t u v x : Tmp} (h : fn.results = #[.tmp t, .tmp u, .tmp v, .tmp x]) (tmps : Array Value) (P : Program) (w : World) :
    (results fn tmps).run P w = .ok (.tuple #[tmps.getD t undef, tmps.getD u undef, tmps.getD v undef, tmps.getD x undef]) w := by
  simp [results, h]
/-- What the reference's quotient answers. -/
def Quot4 (w : World) (q r t u : Nat) (e : Ending) (w' : World) : Prop := e = .returned (.tuple #[.int .u64 (q : Int), .int .u64 (r : Int), .int .i64 (t : Int), .int .i64 (u : Int)]) ∧ w = w'
theorem quot_zero (a : Nat) (W : Int) (s : Bool) (wo : World) :
    Calls Tryd.prog 32 #[.int .u64 (a : Int), .int .u64 0, .int .i64 W, .bool s] wo (Quot4 wo 0 0 6 6) := by
  go_enter Tryd.func32, Tryd.ntmps32
  go_wp2
  (try simp only [Exit.inBlock, Exit.then])
  refine bodyPost_ret (results_tmp4 rfl _ _ _) rfl ?_
  exact ⟨rfl, rfl⟩
theorem wide32 : Wide 32 32 := .inl ⟨rfl, rfl⟩
theorem wide64 : Wide 64 64 := .inr ⟨rfl, rfl⟩
theorem minus_lt (a w : Nat) (hw : w ≤ 64) : minusN a w < 18446744073709551616 := by
  unfold minusN cutN
  have h1 : (18446744073709551616 - a) % 18446744073709551616 % 2 ^ w < 2 ^ w := Nat.mod_lt _ (Nat.pow_pos (by omega))
  have h2 : (2 : Nat) ^ w ≤ 2 ^ 64 := Nat.pow_le_pow_right (by omega) hw
  omega
theorem minus_32 (a : Nat) (h : a < 4294967296) (h0 : 0 < a) : minusN a 32 = 4294967296 - a := by unfold minusN cutN; omega
theorem minus_64 (a : Nat) (h : a < 18446744073709551616) (h0 : 0 < a) : minusN a 64 = 18446744073709551616 - a := by unfold minusN cutN; omega
theorem minus_pos_32 (a : Nat) (h : a < 4294967296) (h0 : 0 < a) : 0 < minusN a 32 := by rw [minus_32 a h h0]; omega
theorem minus_pos_64 (a : Nat) (h : a < 18446744073709551616) (h0 : 0 < a) : 0 < minusN a 64 := by rw [minus_64 a h h0]; omega
theorem quot_uns_32 (a b q r : Nat) (wo : World) (ha : a < 18446744073709551616) (hb : b < 18446744073709551616) (hb0 : 0 < b) (hq : a / b = q) (hr : a % b = r) :
    Calls Tryd.prog 32 #[.int .u64 (a : Int), .int .u64 (b : Int), .int .i64 32, .bool false] wo (Quot4 wo q r 0 0) := by
  have hbz : ((b : Int) == 0) = false := by simp; omega
  have HD := Lib.hid (fun W => divide_any a b q r W ha hb hb0 hq hr)
  clear ha hb hq hr
  go_enter Tryd.func32, Tryd.ntmps32
  go_wp2_with (go_at_call 39; refine (HD.out _).mono ?_; rintro e w' ⟨rfl, rfl⟩)
  (try simp only [Exit.inBlock, Exit.then])
  refine bodyPost_ret (results_tmp4 rfl _ _ _) rfl ?_
  exact ⟨rfl, rfl⟩
theorem quot_uns_64 (a b q r : Nat) (wo : World) (ha : a < 18446744073709551616) (hb : b < 18446744073709551616) (hb0 : 0 < b) (hq : a / b = q) (hr : a % b = r) :
    Calls Tryd.prog 32 #[.int .u64 (a : Int), .int .u64 (b : Int), .int .i64 64, .bool false] wo (Quot4 wo q r 0 0) := by
  have hbz : ((b : Int) == 0) = false := by simp; omega
  have HD := Lib.hid (fun W => divide_any a b q r W ha hb hb0 hq hr)
  clear ha hb hq hr
  go_enter Tryd.func32, Tryd.ntmps32
  go_wp2_with (go_at_call 39; refine (HD.out _).mono ?_; rintro e w' ⟨rfl, rfl⟩)
  (try simp only [Exit.inBlock, Exit.then])
  refine bodyPost_ret (results_tmp4 rfl _ _ _) rfl ?_
  exact ⟨rfl, rfl⟩
set_option maxRecDepth 100000 in
theorem quot_np_32 (a b q r : Nat) (wo : World) (ha : a < 4294967296) (hb : b < 4294967296) (hb0 : 0 < b) (hA : (2147483648 : Int) ≤ (a : Int)) (hB : ¬ (2147483648 : Int) ≤ (b : Int)) (hq : (minusN a 32) / (b) = q) (hr : (minusN a 32) % (b) = r) :
    Calls Tryd.prog 32 #[.int .u64 (a : Int), .int .u64 (b : Int), .int .i64 32, .bool true] wo (Quot4 wo (minusN q 32) (minusN r 32) 0 0) := by
  have hbz : ((b : Int) == 0) = false := by simp; omega
  have hx : minusN a 32 < 18446744073709551616 := minus_lt a 32 (by omega)
  have hy : b < 18446744073709551616 := by omega
  have hy0 : 0 < b := hb0
  have hq64 : q < 18446744073709551616 := by rw [← hq]; exact Nat.lt_of_le_of_lt (Nat.div_le_self _ _) hx
  have hr64 : r < 18446744073709551616 := by rw [← hr]; exact Nat.lt_of_le_of_lt (Nat.mod_le _ _) hx
  have HD := Lib.hid (fun W => divide_any (minusN a 32) (b) q r W hx hy hy0 hq hr)
  have HMA := Lib.hid (fun W => minus_any a 32 32 wide32 (by omega) W)
  have HMR := Lib.hid (fun W => minus_any r 32 32 wide32 hr64 W)
  have HMQ := Lib.hid (fun W => minus_any q 32 32 wide32 hq64 W)
  have hAd : decide ((2147483648 : Int) ≤ (a : Int)) = true := by simpa using hA
  have hBd : decide ((2147483648 : Int) ≤ (b : Int)) = false := by simpa using hB
  clear ha hb hq hr hx hy hy0 hq64 hr64 hA hB
  generalize minusN a 32 = ma at *
  generalize minusN r 32 = mr at *
  generalize minusN q 32 = mq at *
  go_enter Tryd.func32, Tryd.ntmps32
  go_wp2_with fail
  refine (HMA.out _).mono ?_
  rintro e w' ⟨rfl, rfl⟩
  go_wp2_with fail
  refine (HD.out _).mono ?_
  rintro e w' ⟨rfl, rfl⟩
  go_wp2_with fail
  refine (HMR.out _).mono ?_
  rintro e w' ⟨rfl, rfl⟩
  go_wp2_with fail
  refine (HMQ.out _).mono ?_
  rintro e w' ⟨rfl, rfl⟩
  go_wp2
  (try simp only [Exit.inBlock, Exit.then])
  refine bodyPost_ret (results_tmp4 rfl _ _ _) rfl ?_
  exact ⟨rfl, rfl⟩
set_option maxRecDepth 100000 in
theorem quot_pn_32 (a b q r : Nat) (wo : World) (ha : a < 4294967296) (hb : b < 4294967296) (hb0 : 0 < b) (hA : ¬ (2147483648 : Int) ≤ (a : Int)) (hB : (2147483648 : Int) ≤ (b : Int)) (hq : (a) / (minusN b 32) = q) (hr : (a) % (minusN b 32) = r) :
    Calls Tryd.prog 32 #[.int .u64 (a : Int), .int .u64 (b : Int), .int .i64 32, .bool true] wo (Quot4 wo (minusN q 32) (r) 0 0) := by
  have hbz : ((b : Int) == 0) = false := by simp; omega
  have hx : a < 18446744073709551616 := by omega
  have hy : minusN b 32 < 18446744073709551616 := minus_lt b 32 (by omega)
  have hy0 : 0 < minusN b 32 := minus_pos_32 b (by omega) (by omega)
  have hq64 : q < 18446744073709551616 := by rw [← hq]; exact Nat.lt_of_le_of_lt (Nat.div_le_self _ _) hx
  have hr64 : r < 18446744073709551616 := by rw [← hr]; exact Nat.lt_of_le_of_lt (Nat.mod_le _ _) hx
  have HD := Lib.hid (fun W => divide_any (a) (minusN b 32) q r W hx hy hy0 hq hr)
  have HMB := Lib.hid (fun W => minus_any b 32 32 wide32 (by omega) W)
  have HMQ := Lib.hid (fun W => minus_any q 32 32 wide32 hq64 W)
  have hAd : decide ((2147483648 : Int) ≤ (a : Int)) = false := by simpa using hA
  have hBd : decide ((2147483648 : Int) ≤ (b : Int)) = true := by simpa using hB
  clear ha hb hq hr hx hy hy0 hq64 hr64 hA hB
  generalize minusN b 32 = mb at *
  generalize minusN q 32 = mq at *
  go_enter Tryd.func32, Tryd.ntmps32
  go_wp2_with fail
  refine (HMB.out _).mono ?_
  rintro e w' ⟨rfl, rfl⟩
  go_wp2_with fail
  refine (HD.out _).mono ?_
  rintro e w' ⟨rfl, rfl⟩
  go_wp2_with fail
  refine (HMQ.out _).mono ?_
  rintro e w' ⟨rfl, rfl⟩
  go_wp2
  (try simp only [Exit.inBlock, Exit.then])
  refine bodyPost_ret (results_tmp4 rfl _ _ _) rfl ?_
  exact ⟨rfl, rfl⟩
set_option maxRecDepth 100000 in
theorem quot_nno_32 (a b q r : Nat) (wo : World) (ha : a < 4294967296) (hb : b < 4294967296) (hb0 : 0 < b) (hA : (2147483648 : Int) ≤ (a : Int)) (hB : (2147483648 : Int) ≤ (b : Int)) (hO : (2147483648 : Int) ≤ (q : Int)) (hq : (minusN a 32) / (minusN b 32) = q) (hr : (minusN a 32) % (minusN b 32) = r) :
    Calls Tryd.prog 32 #[.int .u64 (a : Int), .int .u64 (b : Int), .int .i64 32, .bool true] wo (Quot4 wo 0 (minusN r 32) 7 0) := by
  have hbz : ((b : Int) == 0) = false := by simp; omega
  have hx : minusN a 32 < 18446744073709551616 := minus_lt a 32 (by omega)
  have hy : minusN b 32 < 18446744073709551616 := minus_lt b 32 (by omega)
  have hy0 : 0 < minusN b 32 := minus_pos_32 b (by omega) (by omega)
  have hq64 : q < 18446744073709551616 := by rw [← hq]; exact Nat.lt_of_le_of_lt (Nat.div_le_self _ _) hx
  have hr64 : r < 18446744073709551616 := by rw [← hr]; exact Nat.lt_of_le_of_lt (Nat.mod_le _ _) hx
  have HD := Lib.hid (fun W => divide_any (minusN a 32) (minusN b 32) q r W hx hy hy0 hq hr)
  have HMA := Lib.hid (fun W => minus_any a 32 32 wide32 (by omega) W)
  have HMB := Lib.hid (fun W => minus_any b 32 32 wide32 (by omega) W)
  have HMR := Lib.hid (fun W => minus_any r 32 32 wide32 hr64 W)
  have hAd : decide ((2147483648 : Int) ≤ (a : Int)) = true := by simpa using hA
  have hBd : decide ((2147483648 : Int) ≤ (b : Int)) = true := by simpa using hB
  have hOd : decide ((2147483648 : Int) ≤ (q : Int)) = true := by simpa using hO
  clear ha hb hq hr hx hy hy0 hq64 hr64 hA hB hO
  generalize minusN a 32 = ma at *
  generalize minusN b 32 = mb at *
  generalize minusN r 32 = mr at *
  go_enter Tryd.func32, Tryd.ntmps32
  go_wp2_with fail
  refine (HMA.out _).mono ?_
  rintro e w' ⟨rfl, rfl⟩
  go_wp2_with fail
  refine (HMB.out _).mono ?_
  rintro e w' ⟨rfl, rfl⟩
  go_wp2_with fail
  refine (HD.out _).mono ?_
  rintro e w' ⟨rfl, rfl⟩
  go_wp2_with fail
  refine (HMR.out _).mono ?_
  rintro e w' ⟨rfl, rfl⟩
  go_wp2
  (try simp only [Exit.inBlock, Exit.then])
  refine bodyPost_ret (results_tmp4 rfl _ _ _) rfl ?_
  exact ⟨rfl, rfl⟩
set_option maxRecDepth 100000 in
theorem quot_ppo_32 (a b q r : Nat) (wo : World) (ha : a < 4294967296) (hb : b < 4294967296) (hb0 : 0 < b) (hA : ¬ (2147483648 : Int) ≤ (a : Int)) (hB : ¬ (2147483648 : Int) ≤ (b : Int)) (hO : (2147483648 : Int) ≤ (q : Int)) (hq : (a) / (b) = q) (hr : (a) % (b) = r) :
    Calls Tryd.prog 32 #[.int .u64 (a : Int), .int .u64 (b : Int), .int .i64 32, .bool true] wo (Quot4 wo 0 (r) 7 0) := by
  have hbz : ((b : Int) == 0) = false := by simp; omega
  have hx : a < 18446744073709551616 := by omega
  have hy : b < 18446744073709551616 := by omega
  have hy0 : 0 < b := hb0
  have hq64 : q < 18446744073709551616 := by rw [← hq]; exact Nat.lt_of_le_of_lt (Nat.div_le_self _ _) hx
  have hr64 : r < 18446744073709551616 := by rw [← hr]; exact Nat.lt_of_le_of_lt (Nat.mod_le _ _) hx
  have HD := Lib.hid (fun W => divide_any (a) (b) q r W hx hy hy0 hq hr)
  have hAd : decide ((2147483648 : Int) ≤ (a : Int)) = false := by simpa using hA
  have hBd : decide ((2147483648 : Int) ≤ (b : Int)) = false := by simpa using hB
  have hOd : decide ((2147483648 : Int) ≤ (q : Int)) = true := by simpa using hO
  clear ha hb hq hr hx hy hy0 hq64 hr64 hA hB hO
  go_enter Tryd.func32, Tryd.ntmps32
  go_wp2_with fail
  refine (HD.out _).mono ?_
  rintro e w' ⟨rfl, rfl⟩
  go_wp2
  (try simp only [Exit.inBlock, Exit.then])
  refine bodyPost_ret (results_tmp4 rfl _ _ _) rfl ?_
  exact ⟨rfl, rfl⟩
set_option maxRecDepth 100000 in
theorem quot_nnf_32 (a b q r : Nat) (wo : World) (ha : a < 4294967296) (hb : b < 4294967296) (hb0 : 0 < b) (hA : (2147483648 : Int) ≤ (a : Int)) (hB : (2147483648 : Int) ≤ (b : Int)) (hO : ¬ (2147483648 : Int) ≤ (q : Int)) (hq : (minusN a 32) / (minusN b 32) = q) (hr : (minusN a 32) % (minusN b 32) = r) :
    Calls Tryd.prog 32 #[.int .u64 (a : Int), .int .u64 (b : Int), .int .i64 32, .bool true] wo (Quot4 wo q (minusN r 32) 0 0) := by
  have hbz : ((b : Int) == 0) = false := by simp; omega
  have hx : minusN a 32 < 18446744073709551616 := minus_lt a 32 (by omega)
  have hy : minusN b 32 < 18446744073709551616 := minus_lt b 32 (by omega)
  have hy0 : 0 < minusN b 32 := minus_pos_32 b (by omega) (by omega)
  have hq64 : q < 18446744073709551616 := by rw [← hq]; exact Nat.lt_of_le_of_lt (Nat.div_le_self _ _) hx
  have hr64 : r < 18446744073709551616 := by rw [← hr]; exact Nat.lt_of_le_of_lt (Nat.mod_le _ _) hx
  have HD := Lib.hid (fun W => divide_any (minusN a 32) (minusN b 32) q r W hx hy hy0 hq hr)
  have HMA := Lib.hid (fun W => minus_any a 32 32 wide32 (by omega) W)
  have HMB := Lib.hid (fun W => minus_any b 32 32 wide32 (by omega) W)
  have HMR := Lib.hid (fun W => minus_any r 32 32 wide32 hr64 W)
  have hAd : decide ((2147483648 : Int) ≤ (a : Int)) = true := by simpa using hA
  have hBd : decide ((2147483648 : Int) ≤ (b : Int)) = true := by simpa using hB
  have hOd : decide ((2147483648 : Int) ≤ (q : Int)) = false := by simpa using hO
  clear ha hb hq hr hx hy hy0 hq64 hr64 hA hB hO
  generalize minusN a 32 = ma at *
  generalize minusN b 32 = mb at *
  generalize minusN r 32 = mr at *
  go_enter Tryd.func32, Tryd.ntmps32
  go_wp2_with fail
  refine (HMA.out _).mono ?_
  rintro e w' ⟨rfl, rfl⟩
  go_wp2_with fail
  refine (HMB.out _).mono ?_
  rintro e w' ⟨rfl, rfl⟩
  go_wp2_with fail
  refine (HD.out _).mono ?_
  rintro e w' ⟨rfl, rfl⟩
  go_wp2_with fail
  refine (HMR.out _).mono ?_
  rintro e w' ⟨rfl, rfl⟩
  go_wp2
  (try simp only [Exit.inBlock, Exit.then])
  refine bodyPost_ret (results_tmp4 rfl _ _ _) rfl ?_
  exact ⟨rfl, rfl⟩
set_option maxRecDepth 100000 in
theorem quot_ppf_32 (a b q r : Nat) (wo : World) (ha : a < 4294967296) (hb : b < 4294967296) (hb0 : 0 < b) (hA : ¬ (2147483648 : Int) ≤ (a : Int)) (hB : ¬ (2147483648 : Int) ≤ (b : Int)) (hO : ¬ (2147483648 : Int) ≤ (q : Int)) (hq : (a) / (b) = q) (hr : (a) % (b) = r) :
    Calls Tryd.prog 32 #[.int .u64 (a : Int), .int .u64 (b : Int), .int .i64 32, .bool true] wo (Quot4 wo q (r) 0 0) := by
  have hbz : ((b : Int) == 0) = false := by simp; omega
  have hx : a < 18446744073709551616 := by omega
  have hy : b < 18446744073709551616 := by omega
  have hy0 : 0 < b := hb0
  have hq64 : q < 18446744073709551616 := by rw [← hq]; exact Nat.lt_of_le_of_lt (Nat.div_le_self _ _) hx
  have hr64 : r < 18446744073709551616 := by rw [← hr]; exact Nat.lt_of_le_of_lt (Nat.mod_le _ _) hx
  have HD := Lib.hid (fun W => divide_any (a) (b) q r W hx hy hy0 hq hr)
  have hAd : decide ((2147483648 : Int) ≤ (a : Int)) = false := by simpa using hA
  have hBd : decide ((2147483648 : Int) ≤ (b : Int)) = false := by simpa using hB
  have hOd : decide ((2147483648 : Int) ≤ (q : Int)) = false := by simpa using hO
  clear ha hb hq hr hx hy hy0 hq64 hr64 hA hB hO
  go_enter Tryd.func32, Tryd.ntmps32
  go_wp2_with fail
  refine (HD.out _).mono ?_
  rintro e w' ⟨rfl, rfl⟩
  go_wp2
  (try simp only [Exit.inBlock, Exit.then])
  refine bodyPost_ret (results_tmp4 rfl _ _ _) rfl ?_
  exact ⟨rfl, rfl⟩
set_option maxRecDepth 100000 in
theorem quot_np_64 (a b q r : Nat) (wo : World) (ha : a < 18446744073709551616) (hb : b < 18446744073709551616) (hb0 : 0 < b) (hA : (9223372036854775808 : Int) ≤ (a : Int)) (hB : ¬ (9223372036854775808 : Int) ≤ (b : Int)) (hq : (minusN a 64) / (b) = q) (hr : (minusN a 64) % (b) = r) :
    Calls Tryd.prog 32 #[.int .u64 (a : Int), .int .u64 (b : Int), .int .i64 64, .bool true] wo (Quot4 wo (minusN q 64) (minusN r 64) 0 0) := by
  have hbz : ((b : Int) == 0) = false := by simp; omega
  have hx : minusN a 64 < 18446744073709551616 := minus_lt a 64 (by omega)
  have hy : b < 18446744073709551616 := by omega
  have hy0 : 0 < b := hb0
  have hq64 : q < 18446744073709551616 := by rw [← hq]; exact Nat.lt_of_le_of_lt (Nat.div_le_self _ _) hx
  have hr64 : r < 18446744073709551616 := by rw [← hr]; exact Nat.lt_of_le_of_lt (Nat.mod_le _ _) hx
  have HD := Lib.hid (fun W => divide_any (minusN a 64) (b) q r W hx hy hy0 hq hr)
  have HMA := Lib.hid (fun W => minus_any a 64 64 wide64 (by omega) W)
  have HMR := Lib.hid (fun W => minus_any r 64 64 wide64 hr64 W)
  have HMQ := Lib.hid (fun W => minus_any q 64 64 wide64 hq64 W)
  have hAd : decide ((9223372036854775808 : Int) ≤ (a : Int)) = true := by simpa using hA
  have hBd : decide ((9223372036854775808 : Int) ≤ (b : Int)) = false := by simpa using hB
  clear ha hb hq hr hx hy hy0 hq64 hr64 hA hB
  generalize minusN a 64 = ma at *
  generalize minusN r 64 = mr at *
  generalize minusN q 64 = mq at *
  go_enter Tryd.func32, Tryd.ntmps32
  go_wp2_with fail
  refine (HMA.out _).mono ?_
  rintro e w' ⟨rfl, rfl⟩
  go_wp2_with fail
  refine (HD.out _).mono ?_
  rintro e w' ⟨rfl, rfl⟩
  go_wp2_with fail
  refine (HMR.out _).mono ?_
  rintro e w' ⟨rfl, rfl⟩
  go_wp2_with fail
  refine (HMQ.out _).mono ?_
  rintro e w' ⟨rfl, rfl⟩
  go_wp2
  (try simp only [Exit.inBlock, Exit.then])
  refine bodyPost_ret (results_tmp4 rfl _ _ _) rfl ?_
  exact ⟨rfl, rfl⟩
set_option maxRecDepth 100000 in
theorem quot_pn_64 (a b q r : Nat) (wo : World) (ha : a < 18446744073709551616) (hb : b < 18446744073709551616) (hb0 : 0 < b) (hA : ¬ (9223372036854775808 : Int) ≤ (a : Int)) (hB : (9223372036854775808 : Int) ≤ (b : Int)) (hq : (a) / (minusN b 64) = q) (hr : (a) % (minusN b 64) = r) :
    Calls Tryd.prog 32 #[.int .u64 (a : Int), .int .u64 (b : Int), .int .i64 64, .bool true] wo (Quot4 wo (minusN q 64) (r) 0 0) := by
  have hbz : ((b : Int) == 0) = false := by simp; omega
  have hx : a < 18446744073709551616 := by omega
  have hy : minusN b 64 < 18446744073709551616 := minus_lt b 64 (by omega)
  have hy0 : 0 < minusN b 64 := minus_pos_64 b (by omega) (by omega)
  have hq64 : q < 18446744073709551616 := by rw [← hq]; exact Nat.lt_of_le_of_lt (Nat.div_le_self _ _) hx
  have hr64 : r < 18446744073709551616 := by rw [← hr]; exact Nat.lt_of_le_of_lt (Nat.mod_le _ _) hx
  have HD := Lib.hid (fun W => divide_any (a) (minusN b 64) q r W hx hy hy0 hq hr)
  have HMB := Lib.hid (fun W => minus_any b 64 64 wide64 (by omega) W)
  have HMQ := Lib.hid (fun W => minus_any q 64 64 wide64 hq64 W)
  have hAd : decide ((9223372036854775808 : Int) ≤ (a : Int)) = false := by simpa using hA
  have hBd : decide ((9223372036854775808 : Int) ≤ (b : Int)) = true := by simpa using hB
  clear ha hb hq hr hx hy hy0 hq64 hr64 hA hB
  generalize minusN b 64 = mb at *
  generalize minusN q 64 = mq at *
  go_enter Tryd.func32, Tryd.ntmps32
  go_wp2_with fail
  refine (HMB.out _).mono ?_
  rintro e w' ⟨rfl, rfl⟩
  go_wp2_with fail
  refine (HD.out _).mono ?_
  rintro e w' ⟨rfl, rfl⟩
  go_wp2_with fail
  refine (HMQ.out _).mono ?_
  rintro e w' ⟨rfl, rfl⟩
  go_wp2
  (try simp only [Exit.inBlock, Exit.then])
  refine bodyPost_ret (results_tmp4 rfl _ _ _) rfl ?_
  exact ⟨rfl, rfl⟩
set_option maxRecDepth 100000 in
theorem quot_nno_64 (a b q r : Nat) (wo : World) (ha : a < 18446744073709551616) (hb : b < 18446744073709551616) (hb0 : 0 < b) (hA : (9223372036854775808 : Int) ≤ (a : Int)) (hB : (9223372036854775808 : Int) ≤ (b : Int)) (hO : (9223372036854775808 : Int) ≤ (q : Int)) (hq : (minusN a 64) / (minusN b 64) = q) (hr : (minusN a 64) % (minusN b 64) = r) :
    Calls Tryd.prog 32 #[.int .u64 (a : Int), .int .u64 (b : Int), .int .i64 64, .bool true] wo (Quot4 wo 0 (minusN r 64) 7 0) := by
  have hbz : ((b : Int) == 0) = false := by simp; omega
  have hx : minusN a 64 < 18446744073709551616 := minus_lt a 64 (by omega)
  have hy : minusN b 64 < 18446744073709551616 := minus_lt b 64 (by omega)
  have hy0 : 0 < minusN b 64 := minus_pos_64 b (by omega) (by omega)
  have hq64 : q < 18446744073709551616 := by rw [← hq]; exact Nat.lt_of_le_of_lt (Nat.div_le_self _ _) hx
  have hr64 : r < 18446744073709551616 := by rw [← hr]; exact Nat.lt_of_le_of_lt (Nat.mod_le _ _) hx
  have HD := Lib.hid (fun W => divide_any (minusN a 64) (minusN b 64) q r W hx hy hy0 hq hr)
  have HMA := Lib.hid (fun W => minus_any a 64 64 wide64 (by omega) W)
  have HMB := Lib.hid (fun W => minus_any b 64 64 wide64 (by omega) W)
  have HMR := Lib.hid (fun W => minus_any r 64 64 wide64 hr64 W)
  have hAd : decide ((9223372036854775808 : Int) ≤ (a : Int)) = true := by simpa using hA
  have hBd : decide ((9223372036854775808 : Int) ≤ (b : Int)) = true := by simpa using hB
  have hOd : decide ((9223372036854775808 : Int) ≤ (q : Int)) = true := by simpa using hO
  clear ha hb hq hr hx hy hy0 hq64 hr64 hA hB hO
  generalize minusN a 64 = ma at *
  generalize minusN b 64 = mb at *
  generalize minusN r 64 = mr at *
  go_enter Tryd.func32, Tryd.ntmps32
  go_wp2_with fail
  refine (HMA.out _).mono ?_
  rintro e w' ⟨rfl, rfl⟩
  go_wp2_with fail
  refine (HMB.out _).mono ?_
  rintro e w' ⟨rfl, rfl⟩
  go_wp2_with fail
  refine (HD.out _).mono ?_
  rintro e w' ⟨rfl, rfl⟩
  go_wp2_with fail
  refine (HMR.out _).mono ?_
  rintro e w' ⟨rfl, rfl⟩
  go_wp2
  (try simp only [Exit.inBlock, Exit.then])
  refine bodyPost_ret (results_tmp4 rfl _ _ _) rfl ?_
  exact ⟨rfl, rfl⟩
set_option maxRecDepth 100000 in
theorem quot_ppo_64 (a b q r : Nat) (wo : World) (ha : a < 18446744073709551616) (hb : b < 18446744073709551616) (hb0 : 0 < b) (hA : ¬ (9223372036854775808 : Int) ≤ (a : Int)) (hB : ¬ (9223372036854775808 : Int) ≤ (b : Int)) (hO : (9223372036854775808 : Int) ≤ (q : Int)) (hq : (a) / (b) = q) (hr : (a) % (b) = r) :
    Calls Tryd.prog 32 #[.int .u64 (a : Int), .int .u64 (b : Int), .int .i64 64, .bool true] wo (Quot4 wo 0 (r) 7 0) := by
  have hbz : ((b : Int) == 0) = false := by simp; omega
  have hx : a < 18446744073709551616 := by omega
  have hy : b < 18446744073709551616 := by omega
  have hy0 : 0 < b := hb0
  have hq64 : q < 18446744073709551616 := by rw [← hq]; exact Nat.lt_of_le_of_lt (Nat.div_le_self _ _) hx
  have hr64 : r < 18446744073709551616 := by rw [← hr]; exact Nat.lt_of_le_of_lt (Nat.mod_le _ _) hx
  have HD := Lib.hid (fun W => divide_any (a) (b) q r W hx hy hy0 hq hr)
  have hAd : decide ((9223372036854775808 : Int) ≤ (a : Int)) = false := by simpa using hA
  have hBd : decide ((9223372036854775808 : Int) ≤ (b : Int)) = false := by simpa using hB
  have hOd : decide ((9223372036854775808 : Int) ≤ (q : Int)) = true := by simpa using hO
  clear ha hb hq hr hx hy hy0 hq64 hr64 hA hB hO
  go_enter Tryd.func32, Tryd.ntmps32
  go_wp2_with fail
  refine (HD.out _).mono ?_
  rintro e w' ⟨rfl, rfl⟩
  go_wp2
  (try simp only [Exit.inBlock, Exit.then])
  refine bodyPost_ret (results_tmp4 rfl _ _ _) rfl ?_
  exact ⟨rfl, rfl⟩
set_option maxRecDepth 100000 in
theorem quot_nnf_64 (a b q r : Nat) (wo : World) (ha : a < 18446744073709551616) (hb : b < 18446744073709551616) (hb0 : 0 < b) (hA : (9223372036854775808 : Int) ≤ (a : Int)) (hB : (9223372036854775808 : Int) ≤ (b : Int)) (hO : ¬ (9223372036854775808 : Int) ≤ (q : Int)) (hq : (minusN a 64) / (minusN b 64) = q) (hr : (minusN a 64) % (minusN b 64) = r) :
    Calls Tryd.prog 32 #[.int .u64 (a : Int), .int .u64 (b : Int), .int .i64 64, .bool true] wo (Quot4 wo q (minusN r 64) 0 0) := by
  have hbz : ((b : Int) == 0) = false := by simp; omega
  have hx : minusN a 64 < 18446744073709551616 := minus_lt a 64 (by omega)
  have hy : minusN b 64 < 18446744073709551616 := minus_lt b 64 (by omega)
  have hy0 : 0 < minusN b 64 := minus_pos_64 b (by omega) (by omega)
  have hq64 : q < 18446744073709551616 := by rw [← hq]; exact Nat.lt_of_le_of_lt (Nat.div_le_self _ _) hx
  have hr64 : r < 18446744073709551616 := by rw [← hr]; exact Nat.lt_of_le_of_lt (Nat.mod_le _ _) hx
  have HD := Lib.hid (fun W => divide_any (minusN a 64) (minusN b 64) q r W hx hy hy0 hq hr)
  have HMA := Lib.hid (fun W => minus_any a 64 64 wide64 (by omega) W)
  have HMB := Lib.hid (fun W => minus_any b 64 64 wide64 (by omega) W)
  have HMR := Lib.hid (fun W => minus_any r 64 64 wide64 hr64 W)
  have hAd : decide ((9223372036854775808 : Int) ≤ (a : Int)) = true := by simpa using hA
  have hBd : decide ((9223372036854775808 : Int) ≤ (b : Int)) = true := by simpa using hB
  have hOd : decide ((9223372036854775808 : Int) ≤ (q : Int)) = false := by simpa using hO
  clear ha hb hq hr hx hy hy0 hq64 hr64 hA hB hO
  generalize minusN a 64 = ma at *
  generalize minusN b 64 = mb at *
  generalize minusN r 64 = mr at *
  go_enter Tryd.func32, Tryd.ntmps32
  go_wp2_with fail
  refine (HMA.out _).mono ?_
  rintro e w' ⟨rfl, rfl⟩
  go_wp2_with fail
  refine (HMB.out _).mono ?_
  rintro e w' ⟨rfl, rfl⟩
  go_wp2_with fail
  refine (HD.out _).mono ?_
  rintro e w' ⟨rfl, rfl⟩
  go_wp2_with fail
  refine (HMR.out _).mono ?_
  rintro e w' ⟨rfl, rfl⟩
  go_wp2
  (try simp only [Exit.inBlock, Exit.then])
  refine bodyPost_ret (results_tmp4 rfl _ _ _) rfl ?_
  exact ⟨rfl, rfl⟩
set_option maxRecDepth 100000 in
theorem quot_ppf_64 (a b q r : Nat) (wo : World) (ha : a < 18446744073709551616) (hb : b < 18446744073709551616) (hb0 : 0 < b) (hA : ¬ (9223372036854775808 : Int) ≤ (a : Int)) (hB : ¬ (9223372036854775808 : Int) ≤ (b : Int)) (hO : ¬ (9223372036854775808 : Int) ≤ (q : Int)) (hq : (a) / (b) = q) (hr : (a) % (b) = r) :
    Calls Tryd.prog 32 #[.int .u64 (a : Int), .int .u64 (b : Int), .int .i64 64, .bool true] wo (Quot4 wo q (r) 0 0) := by
  have hbz : ((b : Int) == 0) = false := by simp; omega
  have hx : a < 18446744073709551616 := by omega
  have hy : b < 18446744073709551616 := by omega
  have hy0 : 0 < b := hb0
  have hq64 : q < 18446744073709551616 := by rw [← hq]; exact Nat.lt_of_le_of_lt (Nat.div_le_self _ _) hx
  have hr64 : r < 18446744073709551616 := by rw [← hr]; exact Nat.lt_of_le_of_lt (Nat.mod_le _ _) hx
  have HD := Lib.hid (fun W => divide_any (a) (b) q r W hx hy hy0 hq hr)
  have hAd : decide ((9223372036854775808 : Int) ≤ (a : Int)) = false := by simpa using hA
  have hBd : decide ((9223372036854775808 : Int) ≤ (b : Int)) = false := by simpa using hB
  have hOd : decide ((9223372036854775808 : Int) ≤ (q : Int)) = false := by simpa using hO
  clear ha hb hq hr hx hy hy0 hq64 hr64 hA hB hO
  go_enter Tryd.func32, Tryd.ntmps32
  go_wp2_with fail
  refine (HD.out _).mono ?_
  rintro e w' ⟨rfl, rfl⟩
  go_wp2
  (try simp only [Exit.inBlock, Exit.then])
  refine bodyPost_ret (results_tmp4 rfl _ _ _) rfl ?_
  exact ⟨rfl, rfl⟩
end Go.Proofs.YtbgcafkdojoilaaDoor.Num
