/-
  trammellaw01.LebBack, walked: it answers true, whatever numbers, bits and bytes behind. Condition: the bytes lie in memory as a slice's cells.
-/
import Derived.Test.YtjillijkbmncmaaLebPutS
import Derived.Test.YtjillijkbmncmaaLebAwake
import Derived.Test.YtjillijkbmncmaaLebPut
import Derived.Test.YtjillijkbmncmaaLebBackMath
namespace Go.Proofs.Ytjillijkbmncmaa.Leb
open Go.RowKit
set_option linter.unusedVariables false

theorem U_is {A : Option Addr} {l : List Nat} {w : World} {B n k v s e : Nat} (cap : Nat) (hb : Bytes w B A l) (hk : l.length = k) (h0 : 1 ≤ n) (h64 : n ≤ 64) (hr : uRes l n = (v, s, e)) :
    Calls Try.prog 10 #[.slice A k cap, .int .i64 (n : Int)] w fun r w' => r = .returned (.tuple #[.int .u64 (v : Int), .int .i64 (s : Int), .int .i64 (e : Int)]) ∧ ∃ m, w' = w.drewN m := by
  have h := U_any A l cap B n w hb h0 h64
  rw [hr, hk] at h
  exact h
theorem S_is {A : Option Addr} {l : List Nat} {w : World} {B n k s e : Nat} {v : Int} (cap : Nat) (hb : Bytes w B A l) (hk : l.length = k) (h0 : 1 ≤ n) (h64 : n ≤ 64) (hr : sRes l n = (v, s, e)) :
    Calls Try.prog 12 #[.slice A k cap, .int .i64 (n : Int)] w fun r w' => r = .returned (.tuple #[.int .i64 v, .int .i64 (s : Int), .int .i64 (e : Int)]) ∧ ∃ m, w' = w.drewN m := by
  have h := S_any A l cap B n w hb h0 h64
  rw [hr, hk] at h
  exact h
theorem back_out (A : Option Addr) (len cap : Nat) (n m b : Int) (w : World) (hl : len ≤ cap) (h : b < 1 ∨ (1 ≤ b ∧ 64 < b)) :
    Calls Try.prog 5 #[.int .u64 n, .int .i64 m, .int .i64 b, .slice A len cap] w fun e w' => e = .returned (.bool true) ∧ Below w.heap.size w w' := by
  by_cases hk : len ≤ 1000
  · rcases h with h | ⟨h, h'⟩ <;>
    · go_enter Try.func5, Try.ntmps5
      go_wp2_with (go_at_call 9; refine (awake_any _).mono ?_; rintro e w' ⟨rfl, hb1⟩)
      go_ret
      exact ⟨rfl, hb1⟩
  · rcases h with h | ⟨h, h'⟩ <;>
    · go_enter Try.func5, Try.ntmps5
      go_wp2_with (go_at_call 9; refine (awake_any _).mono ?_; rintro e w' ⟨rfl, hb1⟩)
      go_ret
      exact ⟨rfl, hb1⟩
section
variable (A : Option Addr) (l' : List Nat) (len cap n b j1 j2 q1 q2 : Nat) (m : Int) (w : World)
set_option maxHeartbeats 2000000 in
theorem back_small_ay (hl : len ≤ cap) (hk : len ≤ 1000) (h0 : 1 ≤ b) (h64 : b ≤ 64) (hb : Bytes w w.heap.size A l') (HL : Hid (l'.length = len)) (hc : A = none → cap = 0) (t1 : ((b : Int) == 64) = true)
    (HN : Hid (n < 18446744073709551616)) (KN : Hid ((putU n).length = j1)) (KQ : Hid ((putU n ++ l').length = q1)) (hq1 : q1 ≤ 2000) (HU : Hid (uRes (putU n ++ l') b = (n, j1, 0)))
    (t3 : (wrap64 (m * 2 ^ (64 - b)) / 2 ^ (64 - b) == m) = true) (HM : Hid (-9223372036854775808 ≤ m ∧ m ≤ 9223372036854775807)) (KM : Hid ((putS m).length = j2)) (KR : Hid ((putS m ++ l').length = q2)) (hq2 : q2 ≤ 2000) (HS : Hid (sRes (putS m ++ l') b = (m, j2, 0))) :
    Calls Try.prog 5 #[.int .u64 (n : Int), .int .i64 m, .int .i64 (b : Int), .slice A len cap] w fun e w' => e = .returned (.bool true) ∧ Below w.heap.size w w' := by
  have b0 : ¬ (b : Int) < 1 := by omega
  have b1 : ¬ 64 < (b : Int) := by omega
  have HC := Lib.hid hc
  clear hc
  go_enter Try.func5, Try.ntmps5
  go_wp2_with (go_at_call 9; refine (awake_any _).mono ?_; rintro e w' ⟨rfl, hb1⟩)
  refine (putU_nil n j1 _ HN.out KN.out).mono ?_
  rintro e w2 ⟨A2, c2, rfl, ho2, -, -, -, hb2⟩
  have hb3 := hb1.trans (hb2.mono hb1.size)
  go_wp2_with (at_builtin; refine app_slice rfl (.tmp 43) (.tmp 44) rfl _ _ (putU n) rfl ho2 (putUf_byte 9 n) A l' len cap w.heap.size q1 HL.out rfl (hb.below hb3) HC.out KQ.out (by omega) hb2.size ?_; intro A3 c3 w3 ho3 hB3 hc3 hn3 hb4)
  have hb5 := hb3.trans (hb4.mono hb1.size)
  refine (U_is c3 hB3 KQ.out h0 h64 HU.out).mono ?_
  rintro e w4 ⟨rfl, d1, rfl⟩
  have hb6 := below_drewN hb5 d1
  clear ho2 ho3 hB3 hb2 hb3 hb4 hb5
  go_wp2_with fail
  refine (putS_nil m j2 _ HM.out KM.out).mono ?_
  rintro e w5 ⟨A5, c5, rfl, ho5, -, -, -, hb7⟩
  have hb8 := hb6.trans (hb7.mono hb6.size)
  go_wp2_with (at_builtin; refine app_slice rfl (.tmp 79) (.tmp 80) rfl _ _ (putS m) rfl ho5 (putSf_byte 9 m) A l' len cap w.heap.size q2 HL.out rfl (hb.below hb8) HC.out KR.out (by omega) hb7.size ?_; intro A6 c6 w6 ho6 hB6 hc6 hn6 hb9)
  have hb10 := hb8.trans (hb9.mono hb6.size)
  refine (S_is c6 hB6 KR.out h0 h64 HS.out).mono ?_
  rintro e w7 ⟨rfl, d2, rfl⟩
  have hb11 := below_drewN hb10 d2
  clear ho5 ho6 hB6 hb7 hb8 hb9 hb10
  go_wp2
  go_ret
  exact ⟨rfl, hb11⟩
set_option maxHeartbeats 2000000 in
theorem back_small_an (hl : len ≤ cap) (hk : len ≤ 1000) (h0 : 1 ≤ b) (h64 : b ≤ 64) (hb : Bytes w w.heap.size A l') (HL : Hid (l'.length = len)) (hc : A = none → cap = 0) (t1 : ((b : Int) == 64) = true)
    (HN : Hid (n < 18446744073709551616)) (KN : Hid ((putU n).length = j1)) (KQ : Hid ((putU n ++ l').length = q1)) (hq1 : q1 ≤ 2000) (HU : Hid (uRes (putU n ++ l') b = (n, j1, 0)))
    (t3 : (wrap64 (m * 2 ^ (64 - b)) / 2 ^ (64 - b) == m) = false) :
    Calls Try.prog 5 #[.int .u64 (n : Int), .int .i64 m, .int .i64 (b : Int), .slice A len cap] w fun e w' => e = .returned (.bool true) ∧ Below w.heap.size w w' := by
  have b0 : ¬ (b : Int) < 1 := by omega
  have b1 : ¬ 64 < (b : Int) := by omega
  have HC := Lib.hid hc
  clear hc
  go_enter Try.func5, Try.ntmps5
  go_wp2_with (go_at_call 9; refine (awake_any _).mono ?_; rintro e w' ⟨rfl, hb1⟩)
  refine (putU_nil n j1 _ HN.out KN.out).mono ?_
  rintro e w2 ⟨A2, c2, rfl, ho2, -, -, -, hb2⟩
  have hb3 := hb1.trans (hb2.mono hb1.size)
  go_wp2_with (at_builtin; refine app_slice rfl (.tmp 43) (.tmp 44) rfl _ _ (putU n) rfl ho2 (putUf_byte 9 n) A l' len cap w.heap.size q1 HL.out rfl (hb.below hb3) HC.out KQ.out (by omega) hb2.size ?_; intro A3 c3 w3 ho3 hB3 hc3 hn3 hb4)
  have hb5 := hb3.trans (hb4.mono hb1.size)
  refine (U_is c3 hB3 KQ.out h0 h64 HU.out).mono ?_
  rintro e w4 ⟨rfl, d1, rfl⟩
  have hb6 := below_drewN hb5 d1
  clear ho2 ho3 hB3 hb2 hb3 hb4 hb5
  go_wp2
  go_ret
  exact ⟨rfl, hb6⟩
set_option maxHeartbeats 2000000 in
theorem back_small_by (hl : len ≤ cap) (hk : len ≤ 1000) (h0 : 1 ≤ b) (h64 : b ≤ 64) (hb : Bytes w w.heap.size A l') (HL : Hid (l'.length = len)) (hc : A = none → cap = 0) (t1 : ((b : Int) == 64) = false) (t2 : ((n : Int) / 2 ^ b == 0) = true)
    (HN : Hid (n < 18446744073709551616)) (KN : Hid ((putU n).length = j1)) (KQ : Hid ((putU n ++ l').length = q1)) (hq1 : q1 ≤ 2000) (HU : Hid (uRes (putU n ++ l') b = (n, j1, 0)))
    (t3 : (wrap64 (m * 2 ^ (64 - b)) / 2 ^ (64 - b) == m) = true) (HM : Hid (-9223372036854775808 ≤ m ∧ m ≤ 9223372036854775807)) (KM : Hid ((putS m).length = j2)) (KR : Hid ((putS m ++ l').length = q2)) (hq2 : q2 ≤ 2000) (HS : Hid (sRes (putS m ++ l') b = (m, j2, 0))) :
    Calls Try.prog 5 #[.int .u64 (n : Int), .int .i64 m, .int .i64 (b : Int), .slice A len cap] w fun e w' => e = .returned (.bool true) ∧ Below w.heap.size w w' := by
  have b0 : ¬ (b : Int) < 1 := by omega
  have b1 : ¬ 64 < (b : Int) := by omega
  have HC := Lib.hid hc
  clear hc
  go_enter Try.func5, Try.ntmps5
  go_wp2_with (go_at_call 9; refine (awake_any _).mono ?_; rintro e w' ⟨rfl, hb1⟩)
  refine (putU_nil n j1 _ HN.out KN.out).mono ?_
  rintro e w2 ⟨A2, c2, rfl, ho2, -, -, -, hb2⟩
  have hb3 := hb1.trans (hb2.mono hb1.size)
  go_wp2_with (at_builtin; refine app_slice rfl (.tmp 43) (.tmp 44) rfl _ _ (putU n) rfl ho2 (putUf_byte 9 n) A l' len cap w.heap.size q1 HL.out rfl (hb.below hb3) HC.out KQ.out (by omega) hb2.size ?_; intro A3 c3 w3 ho3 hB3 hc3 hn3 hb4)
  have hb5 := hb3.trans (hb4.mono hb1.size)
  refine (U_is c3 hB3 KQ.out h0 h64 HU.out).mono ?_
  rintro e w4 ⟨rfl, d1, rfl⟩
  have hb6 := below_drewN hb5 d1
  clear ho2 ho3 hB3 hb2 hb3 hb4 hb5
  go_wp2_with fail
  refine (putS_nil m j2 _ HM.out KM.out).mono ?_
  rintro e w5 ⟨A5, c5, rfl, ho5, -, -, -, hb7⟩
  have hb8 := hb6.trans (hb7.mono hb6.size)
  go_wp2_with (at_builtin; refine app_slice rfl (.tmp 79) (.tmp 80) rfl _ _ (putS m) rfl ho5 (putSf_byte 9 m) A l' len cap w.heap.size q2 HL.out rfl (hb.below hb8) HC.out KR.out (by omega) hb7.size ?_; intro A6 c6 w6 ho6 hB6 hc6 hn6 hb9)
  have hb10 := hb8.trans (hb9.mono hb6.size)
  refine (S_is c6 hB6 KR.out h0 h64 HS.out).mono ?_
  rintro e w7 ⟨rfl, d2, rfl⟩
  have hb11 := below_drewN hb10 d2
  clear ho5 ho6 hB6 hb7 hb8 hb9 hb10
  go_wp2
  go_ret
  exact ⟨rfl, hb11⟩
set_option maxHeartbeats 2000000 in
theorem back_small_bn (hl : len ≤ cap) (hk : len ≤ 1000) (h0 : 1 ≤ b) (h64 : b ≤ 64) (hb : Bytes w w.heap.size A l') (HL : Hid (l'.length = len)) (hc : A = none → cap = 0) (t1 : ((b : Int) == 64) = false) (t2 : ((n : Int) / 2 ^ b == 0) = true)
    (HN : Hid (n < 18446744073709551616)) (KN : Hid ((putU n).length = j1)) (KQ : Hid ((putU n ++ l').length = q1)) (hq1 : q1 ≤ 2000) (HU : Hid (uRes (putU n ++ l') b = (n, j1, 0)))
    (t3 : (wrap64 (m * 2 ^ (64 - b)) / 2 ^ (64 - b) == m) = false) :
    Calls Try.prog 5 #[.int .u64 (n : Int), .int .i64 m, .int .i64 (b : Int), .slice A len cap] w fun e w' => e = .returned (.bool true) ∧ Below w.heap.size w w' := by
  have b0 : ¬ (b : Int) < 1 := by omega
  have b1 : ¬ 64 < (b : Int) := by omega
  have HC := Lib.hid hc
  clear hc
  go_enter Try.func5, Try.ntmps5
  go_wp2_with (go_at_call 9; refine (awake_any _).mono ?_; rintro e w' ⟨rfl, hb1⟩)
  refine (putU_nil n j1 _ HN.out KN.out).mono ?_
  rintro e w2 ⟨A2, c2, rfl, ho2, -, -, -, hb2⟩
  have hb3 := hb1.trans (hb2.mono hb1.size)
  go_wp2_with (at_builtin; refine app_slice rfl (.tmp 43) (.tmp 44) rfl _ _ (putU n) rfl ho2 (putUf_byte 9 n) A l' len cap w.heap.size q1 HL.out rfl (hb.below hb3) HC.out KQ.out (by omega) hb2.size ?_; intro A3 c3 w3 ho3 hB3 hc3 hn3 hb4)
  have hb5 := hb3.trans (hb4.mono hb1.size)
  refine (U_is c3 hB3 KQ.out h0 h64 HU.out).mono ?_
  rintro e w4 ⟨rfl, d1, rfl⟩
  have hb6 := below_drewN hb5 d1
  clear ho2 ho3 hB3 hb2 hb3 hb4 hb5
  go_wp2
  go_ret
  exact ⟨rfl, hb6⟩
set_option maxHeartbeats 2000000 in
theorem back_small_cy (hl : len ≤ cap) (hk : len ≤ 1000) (h0 : 1 ≤ b) (h64 : b ≤ 64) (hb : Bytes w w.heap.size A l') (HL : Hid (l'.length = len)) (hc : A = none → cap = 0) (t1 : ((b : Int) == 64) = false) (t2 : ((n : Int) / 2 ^ b == 0) = false)
    (t3 : (wrap64 (m * 2 ^ (64 - b)) / 2 ^ (64 - b) == m) = true) (HM : Hid (-9223372036854775808 ≤ m ∧ m ≤ 9223372036854775807)) (KM : Hid ((putS m).length = j2)) (KR : Hid ((putS m ++ l').length = q2)) (hq2 : q2 ≤ 2000) (HS : Hid (sRes (putS m ++ l') b = (m, j2, 0))) :
    Calls Try.prog 5 #[.int .u64 (n : Int), .int .i64 m, .int .i64 (b : Int), .slice A len cap] w fun e w' => e = .returned (.bool true) ∧ Below w.heap.size w w' := by
  have b0 : ¬ (b : Int) < 1 := by omega
  have b1 : ¬ 64 < (b : Int) := by omega
  have HC := Lib.hid hc
  clear hc
  go_enter Try.func5, Try.ntmps5
  go_wp2_with (go_at_call 9; refine (awake_any _).mono ?_; rintro e w' ⟨rfl, hb1⟩)
  refine (putS_nil m j2 _ HM.out KM.out).mono ?_
  rintro e w5 ⟨A5, c5, rfl, ho5, -, -, -, hb7⟩
  have hb8 := hb1.trans (hb7.mono hb1.size)
  go_wp2_with (at_builtin; refine app_slice rfl (.tmp 79) (.tmp 80) rfl _ _ (putS m) rfl ho5 (putSf_byte 9 m) A l' len cap w.heap.size q2 HL.out rfl (hb.below hb8) HC.out KR.out (by omega) hb7.size ?_; intro A6 c6 w6 ho6 hB6 hc6 hn6 hb9)
  have hb10 := hb8.trans (hb9.mono hb1.size)
  refine (S_is c6 hB6 KR.out h0 h64 HS.out).mono ?_
  rintro e w7 ⟨rfl, d2, rfl⟩
  have hb11 := below_drewN hb10 d2
  clear ho5 ho6 hB6 hb7 hb8 hb9 hb10
  go_wp2
  go_ret
  exact ⟨rfl, hb11⟩
set_option maxHeartbeats 2000000 in
theorem back_small_cn (hl : len ≤ cap) (hk : len ≤ 1000) (h0 : 1 ≤ b) (h64 : b ≤ 64) (hb : Bytes w w.heap.size A l') (HL : Hid (l'.length = len)) (hc : A = none → cap = 0) (t1 : ((b : Int) == 64) = false) (t2 : ((n : Int) / 2 ^ b == 0) = false)
    (t3 : (wrap64 (m * 2 ^ (64 - b)) / 2 ^ (64 - b) == m) = false) :
    Calls Try.prog 5 #[.int .u64 (n : Int), .int .i64 m, .int .i64 (b : Int), .slice A len cap] w fun e w' => e = .returned (.bool true) ∧ Below w.heap.size w w' := by
  have b0 : ¬ (b : Int) < 1 := by omega
  have b1 : ¬ 64 < (b : Int) := by omega
  have HC := Lib.hid hc
  clear hc
  go_enter Try.func5, Try.ntmps5
  go_wp2_with (go_at_call 9; refine (awake_any _).mono ?_; rintro e w' ⟨rfl, hb1⟩)
  go_ret
  exact ⟨rfl, hb1⟩
set_option maxHeartbeats 2000000 in
theorem back_great_ay (hl : len ≤ cap) (hk : 1000 < len) (h0 : 1 ≤ b) (h64 : b ≤ 64) (hb : Bytes w w.heap.size A l') (HL : Hid (l'.length = 1000)) (hc : A = none → cap = 0) (t1 : ((b : Int) == 64) = true)
    (HN : Hid (n < 18446744073709551616)) (KN : Hid ((putU n).length = j1)) (KQ : Hid ((putU n ++ l').length = q1)) (hq1 : q1 ≤ 2000) (HU : Hid (uRes (putU n ++ l') b = (n, j1, 0)))
    (t3 : (wrap64 (m * 2 ^ (64 - b)) / 2 ^ (64 - b) == m) = true) (HM : Hid (-9223372036854775808 ≤ m ∧ m ≤ 9223372036854775807)) (KM : Hid ((putS m).length = j2)) (KR : Hid ((putS m ++ l').length = q2)) (hq2 : q2 ≤ 2000) (HS : Hid (sRes (putS m ++ l') b = (m, j2, 0))) :
    Calls Try.prog 5 #[.int .u64 (n : Int), .int .i64 m, .int .i64 (b : Int), .slice A len cap] w fun e w' => e = .returned (.bool true) ∧ Below w.heap.size w w' := by
  have b0 : ¬ (b : Int) < 1 := by omega
  have b1 : ¬ 64 < (b : Int) := by omega
  have HC := Lib.hid hc
  clear hc
  go_enter Try.func5, Try.ntmps5
  go_wp2_with (go_at_call 9; refine (awake_any _).mono ?_; rintro e w' ⟨rfl, hb1⟩)
  refine (putU_nil n j1 _ HN.out KN.out).mono ?_
  rintro e w2 ⟨A2, c2, rfl, ho2, -, -, -, hb2⟩
  have hb3 := hb1.trans (hb2.mono hb1.size)
  go_wp2_with (at_builtin; refine app_slice rfl (.tmp 43) (.tmp 44) rfl _ _ (putU n) rfl ho2 (putUf_byte 9 n) A l' 1000 cap w.heap.size q1 HL.out rfl (hb.below hb3) HC.out KQ.out (by omega) hb2.size ?_; intro A3 c3 w3 ho3 hB3 hc3 hn3 hb4)
  have hb5 := hb3.trans (hb4.mono hb1.size)
  refine (U_is c3 hB3 KQ.out h0 h64 HU.out).mono ?_
  rintro e w4 ⟨rfl, d1, rfl⟩
  have hb6 := below_drewN hb5 d1
  clear ho2 ho3 hB3 hb2 hb3 hb4 hb5
  go_wp2_with fail
  refine (putS_nil m j2 _ HM.out KM.out).mono ?_
  rintro e w5 ⟨A5, c5, rfl, ho5, -, -, -, hb7⟩
  have hb8 := hb6.trans (hb7.mono hb6.size)
  go_wp2_with (at_builtin; refine app_slice rfl (.tmp 79) (.tmp 80) rfl _ _ (putS m) rfl ho5 (putSf_byte 9 m) A l' 1000 cap w.heap.size q2 HL.out rfl (hb.below hb8) HC.out KR.out (by omega) hb7.size ?_; intro A6 c6 w6 ho6 hB6 hc6 hn6 hb9)
  have hb10 := hb8.trans (hb9.mono hb6.size)
  refine (S_is c6 hB6 KR.out h0 h64 HS.out).mono ?_
  rintro e w7 ⟨rfl, d2, rfl⟩
  have hb11 := below_drewN hb10 d2
  clear ho5 ho6 hB6 hb7 hb8 hb9 hb10
  go_wp2
  go_ret
  exact ⟨rfl, hb11⟩
set_option maxHeartbeats 2000000 in
theorem back_great_an (hl : len ≤ cap) (hk : 1000 < len) (h0 : 1 ≤ b) (h64 : b ≤ 64) (hb : Bytes w w.heap.size A l') (HL : Hid (l'.length = 1000)) (hc : A = none → cap = 0) (t1 : ((b : Int) == 64) = true)
    (HN : Hid (n < 18446744073709551616)) (KN : Hid ((putU n).length = j1)) (KQ : Hid ((putU n ++ l').length = q1)) (hq1 : q1 ≤ 2000) (HU : Hid (uRes (putU n ++ l') b = (n, j1, 0)))
    (t3 : (wrap64 (m * 2 ^ (64 - b)) / 2 ^ (64 - b) == m) = false) :
    Calls Try.prog 5 #[.int .u64 (n : Int), .int .i64 m, .int .i64 (b : Int), .slice A len cap] w fun e w' => e = .returned (.bool true) ∧ Below w.heap.size w w' := by
  have b0 : ¬ (b : Int) < 1 := by omega
  have b1 : ¬ 64 < (b : Int) := by omega
  have HC := Lib.hid hc
  clear hc
  go_enter Try.func5, Try.ntmps5
  go_wp2_with (go_at_call 9; refine (awake_any _).mono ?_; rintro e w' ⟨rfl, hb1⟩)
  refine (putU_nil n j1 _ HN.out KN.out).mono ?_
  rintro e w2 ⟨A2, c2, rfl, ho2, -, -, -, hb2⟩
  have hb3 := hb1.trans (hb2.mono hb1.size)
  go_wp2_with (at_builtin; refine app_slice rfl (.tmp 43) (.tmp 44) rfl _ _ (putU n) rfl ho2 (putUf_byte 9 n) A l' 1000 cap w.heap.size q1 HL.out rfl (hb.below hb3) HC.out KQ.out (by omega) hb2.size ?_; intro A3 c3 w3 ho3 hB3 hc3 hn3 hb4)
  have hb5 := hb3.trans (hb4.mono hb1.size)
  refine (U_is c3 hB3 KQ.out h0 h64 HU.out).mono ?_
  rintro e w4 ⟨rfl, d1, rfl⟩
  have hb6 := below_drewN hb5 d1
  clear ho2 ho3 hB3 hb2 hb3 hb4 hb5
  go_wp2
  go_ret
  exact ⟨rfl, hb6⟩
set_option maxHeartbeats 2000000 in
theorem back_great_by (hl : len ≤ cap) (hk : 1000 < len) (h0 : 1 ≤ b) (h64 : b ≤ 64) (hb : Bytes w w.heap.size A l') (HL : Hid (l'.length = 1000)) (hc : A = none → cap = 0) (t1 : ((b : Int) == 64) = false) (t2 : ((n : Int) / 2 ^ b == 0) = true)
    (HN : Hid (n < 18446744073709551616)) (KN : Hid ((putU n).length = j1)) (KQ : Hid ((putU n ++ l').length = q1)) (hq1 : q1 ≤ 2000) (HU : Hid (uRes (putU n ++ l') b = (n, j1, 0)))
    (t3 : (wrap64 (m * 2 ^ (64 - b)) / 2 ^ (64 - b) == m) = true) (HM : Hid (-9223372036854775808 ≤ m ∧ m ≤ 9223372036854775807)) (KM : Hid ((putS m).length = j2)) (KR : Hid ((putS m ++ l').length = q2)) (hq2 : q2 ≤ 2000) (HS : Hid (sRes (putS m ++ l') b = (m, j2, 0))) :
    Calls Try.prog 5 #[.int .u64 (n : Int), .int .i64 m, .int .i64 (b : Int), .slice A len cap] w fun e w' => e = .returned (.bool true) ∧ Below w.heap.size w w' := by
  have b0 : ¬ (b : Int) < 1 := by omega
  have b1 : ¬ 64 < (b : Int) := by omega
  have HC := Lib.hid hc
  clear hc
  go_enter Try.func5, Try.ntmps5
  go_wp2_with (go_at_call 9; refine (awake_any _).mono ?_; rintro e w' ⟨rfl, hb1⟩)
  refine (putU_nil n j1 _ HN.out KN.out).mono ?_
  rintro e w2 ⟨A2, c2, rfl, ho2, -, -, -, hb2⟩
  have hb3 := hb1.trans (hb2.mono hb1.size)
  go_wp2_with (at_builtin; refine app_slice rfl (.tmp 43) (.tmp 44) rfl _ _ (putU n) rfl ho2 (putUf_byte 9 n) A l' 1000 cap w.heap.size q1 HL.out rfl (hb.below hb3) HC.out KQ.out (by omega) hb2.size ?_; intro A3 c3 w3 ho3 hB3 hc3 hn3 hb4)
  have hb5 := hb3.trans (hb4.mono hb1.size)
  refine (U_is c3 hB3 KQ.out h0 h64 HU.out).mono ?_
  rintro e w4 ⟨rfl, d1, rfl⟩
  have hb6 := below_drewN hb5 d1
  clear ho2 ho3 hB3 hb2 hb3 hb4 hb5
  go_wp2_with fail
  refine (putS_nil m j2 _ HM.out KM.out).mono ?_
  rintro e w5 ⟨A5, c5, rfl, ho5, -, -, -, hb7⟩
  have hb8 := hb6.trans (hb7.mono hb6.size)
  go_wp2_with (at_builtin; refine app_slice rfl (.tmp 79) (.tmp 80) rfl _ _ (putS m) rfl ho5 (putSf_byte 9 m) A l' 1000 cap w.heap.size q2 HL.out rfl (hb.below hb8) HC.out KR.out (by omega) hb7.size ?_; intro A6 c6 w6 ho6 hB6 hc6 hn6 hb9)
  have hb10 := hb8.trans (hb9.mono hb6.size)
  refine (S_is c6 hB6 KR.out h0 h64 HS.out).mono ?_
  rintro e w7 ⟨rfl, d2, rfl⟩
  have hb11 := below_drewN hb10 d2
  clear ho5 ho6 hB6 hb7 hb8 hb9 hb10
  go_wp2
  go_ret
  exact ⟨rfl, hb11⟩
set_option maxHeartbeats 2000000 in
theorem back_great_bn (hl : len ≤ cap) (hk : 1000 < len) (h0 : 1 ≤ b) (h64 : b ≤ 64) (hb : Bytes w w.heap.size A l') (HL : Hid (l'.length = 1000)) (hc : A = none → cap = 0) (t1 : ((b : Int) == 64) = false) (t2 : ((n : Int) / 2 ^ b == 0) = true)
    (HN : Hid (n < 18446744073709551616)) (KN : Hid ((putU n).length = j1)) (KQ : Hid ((putU n ++ l').length = q1)) (hq1 : q1 ≤ 2000) (HU : Hid (uRes (putU n ++ l') b = (n, j1, 0)))
    (t3 : (wrap64 (m * 2 ^ (64 - b)) / 2 ^ (64 - b) == m) = false) :
    Calls Try.prog 5 #[.int .u64 (n : Int), .int .i64 m, .int .i64 (b : Int), .slice A len cap] w fun e w' => e = .returned (.bool true) ∧ Below w.heap.size w w' := by
  have b0 : ¬ (b : Int) < 1 := by omega
  have b1 : ¬ 64 < (b : Int) := by omega
  have HC := Lib.hid hc
  clear hc
  go_enter Try.func5, Try.ntmps5
  go_wp2_with (go_at_call 9; refine (awake_any _).mono ?_; rintro e w' ⟨rfl, hb1⟩)
  refine (putU_nil n j1 _ HN.out KN.out).mono ?_
  rintro e w2 ⟨A2, c2, rfl, ho2, -, -, -, hb2⟩
  have hb3 := hb1.trans (hb2.mono hb1.size)
  go_wp2_with (at_builtin; refine app_slice rfl (.tmp 43) (.tmp 44) rfl _ _ (putU n) rfl ho2 (putUf_byte 9 n) A l' 1000 cap w.heap.size q1 HL.out rfl (hb.below hb3) HC.out KQ.out (by omega) hb2.size ?_; intro A3 c3 w3 ho3 hB3 hc3 hn3 hb4)
  have hb5 := hb3.trans (hb4.mono hb1.size)
  refine (U_is c3 hB3 KQ.out h0 h64 HU.out).mono ?_
  rintro e w4 ⟨rfl, d1, rfl⟩
  have hb6 := below_drewN hb5 d1
  clear ho2 ho3 hB3 hb2 hb3 hb4 hb5
  go_wp2
  go_ret
  exact ⟨rfl, hb6⟩
set_option maxHeartbeats 2000000 in
theorem back_great_cy (hl : len ≤ cap) (hk : 1000 < len) (h0 : 1 ≤ b) (h64 : b ≤ 64) (hb : Bytes w w.heap.size A l') (HL : Hid (l'.length = 1000)) (hc : A = none → cap = 0) (t1 : ((b : Int) == 64) = false) (t2 : ((n : Int) / 2 ^ b == 0) = false)
    (t3 : (wrap64 (m * 2 ^ (64 - b)) / 2 ^ (64 - b) == m) = true) (HM : Hid (-9223372036854775808 ≤ m ∧ m ≤ 9223372036854775807)) (KM : Hid ((putS m).length = j2)) (KR : Hid ((putS m ++ l').length = q2)) (hq2 : q2 ≤ 2000) (HS : Hid (sRes (putS m ++ l') b = (m, j2, 0))) :
    Calls Try.prog 5 #[.int .u64 (n : Int), .int .i64 m, .int .i64 (b : Int), .slice A len cap] w fun e w' => e = .returned (.bool true) ∧ Below w.heap.size w w' := by
  have b0 : ¬ (b : Int) < 1 := by omega
  have b1 : ¬ 64 < (b : Int) := by omega
  have HC := Lib.hid hc
  clear hc
  go_enter Try.func5, Try.ntmps5
  go_wp2_with (go_at_call 9; refine (awake_any _).mono ?_; rintro e w' ⟨rfl, hb1⟩)
  refine (putS_nil m j2 _ HM.out KM.out).mono ?_
  rintro e w5 ⟨A5, c5, rfl, ho5, -, -, -, hb7⟩
  have hb8 := hb1.trans (hb7.mono hb1.size)
  go_wp2_with (at_builtin; refine app_slice rfl (.tmp 79) (.tmp 80) rfl _ _ (putS m) rfl ho5 (putSf_byte 9 m) A l' 1000 cap w.heap.size q2 HL.out rfl (hb.below hb8) HC.out KR.out (by omega) hb7.size ?_; intro A6 c6 w6 ho6 hB6 hc6 hn6 hb9)
  have hb10 := hb8.trans (hb9.mono hb1.size)
  refine (S_is c6 hB6 KR.out h0 h64 HS.out).mono ?_
  rintro e w7 ⟨rfl, d2, rfl⟩
  have hb11 := below_drewN hb10 d2
  clear ho5 ho6 hB6 hb7 hb8 hb9 hb10
  go_wp2
  go_ret
  exact ⟨rfl, hb11⟩
set_option maxHeartbeats 2000000 in
theorem back_great_cn (hl : len ≤ cap) (hk : 1000 < len) (h0 : 1 ≤ b) (h64 : b ≤ 64) (hb : Bytes w w.heap.size A l') (HL : Hid (l'.length = 1000)) (hc : A = none → cap = 0) (t1 : ((b : Int) == 64) = false) (t2 : ((n : Int) / 2 ^ b == 0) = false)
    (t3 : (wrap64 (m * 2 ^ (64 - b)) / 2 ^ (64 - b) == m) = false) :
    Calls Try.prog 5 #[.int .u64 (n : Int), .int .i64 m, .int .i64 (b : Int), .slice A len cap] w fun e w' => e = .returned (.bool true) ∧ Below w.heap.size w w' := by
  have b0 : ¬ (b : Int) < 1 := by omega
  have b1 : ¬ 64 < (b : Int) := by omega
  have HC := Lib.hid hc
  clear hc
  go_enter Try.func5, Try.ntmps5
  go_wp2_with (go_at_call 9; refine (awake_any _).mono ?_; rintro e w' ⟨rfl, hb1⟩)
  go_ret
  exact ⟨rfl, hb1⟩
end
end Go.Proofs.Ytjillijkbmncmaa.Leb
