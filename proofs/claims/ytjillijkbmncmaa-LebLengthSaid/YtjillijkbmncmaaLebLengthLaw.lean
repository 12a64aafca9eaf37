/-
  trammellaw01.LebLength answers true for every two unsigned numbers and every signed one of 64 bits. No other condition.
-/
import Derived.Test.YtjillijkbmncmaaLebPutS
import Derived.Test.YtjillijkbmncmaaLebAwake
import Derived.Test.YtjillijkbmncmaaLebPut
namespace Go.Proofs.Ytjillijkbmncmaa.Leb
open Go.RowKit

theorem putU_mono (a b : Nat) (h : a ≤ b) (hb : b < 18446744073709551616) : (putU a).length ≤ (putU b).length := by
  have h1 := (putUf_len 9 b).1
  have h2 : b < 128 ^ (putU b).length := by
    have h3 := val_lt (putU b)
    have h4 : val (putU b) = b := val_putUf 9 b (by omega)
    omega
  exact putUf_least 9 a _ h1 (by omega)
theorem putS_not (n : Int) (hn : -9223372036854775808 ≤ n ∧ n ≤ 9223372036854775807) : (putS (-1 - n)).length = (putS n).length := by
  have h1 := putSf_fits 9 n (by omega)
  have h2 := putSf_fits 9 (-1 - n) (by omega)
  have h3 := (putSf_len 9 n).1
  have h4 := (putSf_len 9 (-1 - n)).1
  have h5 := putSf_least 9 n _ h4 (by generalize (128 : Int) ^ ((putSf 9 (-1 - n)).length - 1) = P at *; omega)
  have h6 := putSf_least 9 (-1 - n) _ h3 (by generalize (128 : Int) ^ ((putSf 9 n).length - 1) = P at *; omega)
  unfold putS
  omega
theorem not64 (n : Int) (h : -9223372036854775808 ≤ n ∧ n ≤ 9223372036854775807) : bits .xor .i64 (-1) n = -1 - n := by
  show IntKind.i64.wrap ((BitVec.ofInt 64 (-1) ^^^ BitVec.ofInt 64 n).toNat : Int) = _
  have h1 : BitVec.ofInt 64 (-1) = BitVec.allOnes 64 := by decide
  rw [h1, BitVec.allOnes_xor, BitVec.toNat_not, BitVec.toNat_ofInt, IntKind.wrap_i64]
  omega
set_option maxHeartbeats 1000000 in
theorem length_lt (a b ka kb k3 : Nat) (n : Int) (w : World) (HA : Hid (a < 18446744073709551616)) (HB : Hid (b < 18446744073709551616)) (HN : Hid (-9223372036854775808 ≤ n ∧ n ≤ 9223372036854775807))
    (KA : Hid ((putU a).length = ka)) (KB : Hid ((putU b).length = kb)) (K3 : Hid ((putS n).length = k3)) (K4 : Hid ((putS (-1 - n)).length = k3)) (h10 : ka ≤ 10) (hab : a < b) (hk : ka ≤ kb) :
    Calls Try.prog 8 #[.int .u64 (a : Int), .int .u64 (b : Int), .int .i64 n] w fun e w' => e = .returned (.bool true) ∧ Below w.heap.size w w' := by
  go_enter Try.func8, Try.ntmps8
  go_wp2_with (go_at_call 9; refine (awake_any _).mono ?_; rintro e w' ⟨rfl, hb1⟩)
  refine (putU_nil a ka _ HA.out KA.out).mono ?_
  rintro e w2 ⟨A2, c2, rfl, -, -, -, -, hb2⟩
  go_wp2_with fail
  refine (putU_nil b kb _ HB.out KB.out).mono ?_
  rintro e w3 ⟨A3, c3, rfl, -, -, -, -, hb3⟩
  go_wp2_with fail
  refine (putS_nil _ k3 _ HN.out K3.out).mono ?_
  rintro e w4 ⟨A4, c4, rfl, -, -, -, -, hb4⟩
  go_wp2_with fail
  rw [not64 n HN.out]
  refine (putS_nil _ k3 _ (by have := HN.out; omega) K4.out).mono ?_
  rintro e w5 ⟨A5, c5, rfl, -, -, -, -, hb5⟩
  go_wp2_with fail
  refine (putU_nil a ka _ HA.out KA.out).mono ?_
  rintro e w6 ⟨A6, c6, rfl, -, -, -, -, hb6⟩
  go_wp2
  go_ret
  exact ⟨ret_bool (decide_eq_true (by omega)), hb1.trans ((hb2.mono hb1.size).trans ((hb3.mono (Nat.le_trans hb1.size hb2.size)).trans ((hb4.mono (by have := hb1.size; have := hb2.size; have := hb3.size; omega)).trans ((hb5.mono (by have := hb1.size; have := hb2.size; have := hb3.size; have := hb4.size; omega)).trans (hb6.mono (by have := hb1.size; have := hb2.size; have := hb3.size; have := hb4.size; have := hb5.size; omega))))))⟩
set_option maxHeartbeats 1000000 in
theorem length_gt (a b ka kb k3 : Nat) (n : Int) (w : World) (HA : Hid (a < 18446744073709551616)) (HB : Hid (b < 18446744073709551616)) (HN : Hid (-9223372036854775808 ≤ n ∧ n ≤ 9223372036854775807))
    (KA : Hid ((putU a).length = ka)) (KB : Hid ((putU b).length = kb)) (K3 : Hid ((putS n).length = k3)) (K4 : Hid ((putS (-1 - n)).length = k3)) (h10 : ka ≤ 10) (hab : b < a) (hk : kb ≤ ka) :
    Calls Try.prog 8 #[.int .u64 (a : Int), .int .u64 (b : Int), .int .i64 n] w fun e w' => e = .returned (.bool true) ∧ Below w.heap.size w w' := by
  go_enter Try.func8, Try.ntmps8
  go_wp2_with (go_at_call 9; refine (awake_any _).mono ?_; rintro e w' ⟨rfl, hb1⟩)
  refine (putU_nil b kb _ HB.out KB.out).mono ?_
  rintro e w2 ⟨A2, c2, rfl, -, -, -, -, hb2⟩
  go_wp2_with fail
  refine (putU_nil a ka _ HA.out KA.out).mono ?_
  rintro e w3 ⟨A3, c3, rfl, -, -, -, -, hb3⟩
  go_wp2_with fail
  refine (putS_nil _ k3 _ HN.out K3.out).mono ?_
  rintro e w4 ⟨A4, c4, rfl, -, -, -, -, hb4⟩
  go_wp2_with fail
  rw [not64 n HN.out]
  refine (putS_nil _ k3 _ (by have := HN.out; omega) K4.out).mono ?_
  rintro e w5 ⟨A5, c5, rfl, -, -, -, -, hb5⟩
  go_wp2_with fail
  refine (putU_nil a ka _ HA.out KA.out).mono ?_
  rintro e w6 ⟨A6, c6, rfl, -, -, -, -, hb6⟩
  go_wp2
  go_ret
  exact ⟨ret_bool (decide_eq_true (by omega)), hb1.trans ((hb2.mono hb1.size).trans ((hb3.mono (Nat.le_trans hb1.size hb2.size)).trans ((hb4.mono (by have := hb1.size; have := hb2.size; have := hb3.size; omega)).trans ((hb5.mono (by have := hb1.size; have := hb2.size; have := hb3.size; have := hb4.size; omega)).trans (hb6.mono (by have := hb1.size; have := hb2.size; have := hb3.size; have := hb4.size; have := hb5.size; omega))))))⟩
set_option maxHeartbeats 1000000 in
theorem length_eq (a ka k3 : Nat) (n : Int) (w : World) (HA : Hid (a < 18446744073709551616)) (HN : Hid (-9223372036854775808 ≤ n ∧ n ≤ 9223372036854775807))
    (KA : Hid ((putU a).length = ka)) (K3 : Hid ((putS n).length = k3)) (K4 : Hid ((putS (-1 - n)).length = k3)) (h10 : ka ≤ 10) :
    Calls Try.prog 8 #[.int .u64 (a : Int), .int .u64 (a : Int), .int .i64 n] w fun e w' => e = .returned (.bool true) ∧ Below w.heap.size w w' := by
  go_enter Try.func8, Try.ntmps8
  go_wp2_with (go_at_call 9; refine (awake_any _).mono ?_; rintro e w' ⟨rfl, hb1⟩)
  refine (putU_nil a ka _ HA.out KA.out).mono ?_
  rintro e w2 ⟨A2, c2, rfl, -, -, -, -, hb2⟩
  go_wp2_with fail
  refine (putU_nil a ka _ HA.out KA.out).mono ?_
  rintro e w3 ⟨A3, c3, rfl, -, -, -, -, hb3⟩
  go_wp2_with fail
  refine (putS_nil _ k3 _ HN.out K3.out).mono ?_
  rintro e w4 ⟨A4, c4, rfl, -, -, -, -, hb4⟩
  go_wp2_with fail
  rw [not64 n HN.out]
  refine (putS_nil _ k3 _ (by have := HN.out; omega) K4.out).mono ?_
  rintro e w5 ⟨A5, c5, rfl, -, -, -, -, hb5⟩
  go_wp2_with fail
  refine (putU_nil a ka _ HA.out KA.out).mono ?_
  rintro e w6 ⟨A6, c6, rfl, -, -, -, -, hb6⟩
  go_wp2
  go_ret
  exact ⟨ret_bool (decide_eq_true (by omega)), hb1.trans ((hb2.mono hb1.size).trans ((hb3.mono (Nat.le_trans hb1.size hb2.size)).trans ((hb4.mono (by have := hb1.size; have := hb2.size; have := hb3.size; omega)).trans ((hb5.mono (by have := hb1.size; have := hb2.size; have := hb3.size; have := hb4.size; omega)).trans (hb6.mono (by have := hb1.size; have := hb2.size; have := hb3.size; have := hb4.size; have := hb5.size; omega))))))⟩
theorem length_law (a b n : Int) (w : World) (ha : 0 ≤ a ∧ a ≤ 18446744073709551615) (hb : 0 ≤ b ∧ b ≤ 18446744073709551615) (hn : -9223372036854775808 ≤ n ∧ n ≤ 9223372036854775807) :
    Calls Try.prog 8 #[.int .u64 a, .int .u64 b, .int .i64 n] w fun e w' => e = .returned (.bool true) ∧ Below w.heap.size w w' := by
  obtain ⟨a, rfl⟩ := Int.eq_ofNat_of_zero_le ha.1
  obtain ⟨b, rfl⟩ := Int.eq_ofNat_of_zero_le hb.1
  have h10 := (putUf_len 9 a).2
  rcases Nat.lt_trichotomy a b with h | rfl | h
  · exact length_lt a b _ _ _ n w (Lib.hid (by omega)) (Lib.hid (by omega)) (Lib.hid hn) (Lib.hid rfl) (Lib.hid rfl) (Lib.hid rfl) (Lib.hid (putS_not n hn)) h10 h (putU_mono a b (by omega) (by omega))
  · exact length_eq a _ _ n w (Lib.hid (by omega)) (Lib.hid hn) (Lib.hid rfl) (Lib.hid rfl) (Lib.hid (putS_not n hn)) h10
  · exact length_gt a b _ _ _ n w (Lib.hid (by omega)) (Lib.hid (by omega)) (Lib.hid hn) (Lib.hid rfl) (Lib.hid rfl) (Lib.hid rfl) (Lib.hid (putS_not n hn)) h10 h (putU_mono b a (by omega) (by omega))
end Go.Proofs.Ytjillijkbmncmaa.Leb
