/-
  PackBack answers true, if pack's functions answer as the reference's do. Condition: that premise.
-/
import Derived.Test.YtaagingcjmkcdaaPackAwake
import Derived.Laws.BitsAllLaws
namespace Go.Proofs.Ytaagingcjmkcdaa.Pack
open Go.RowKit Leb

theorem mask_int (s : Nat) (h : 1 ≤ s ∧ s ≤ 8) : (18446744073709551615 : Int) / 2 ^ (64 - 8 * s) = ((2 ^ (8 * s) - 1 : Nat) : Int) ∧ 2 ^ (8 * s) ≤ 18446744073709551616 ∧ 256 ^ s = 2 ^ (8 * s) := by
  have hs : s = 1 ∨ s = 2 ∨ s = 3 ∨ s = 4 ∨ s = 5 ∨ s = 6 ∨ s = 7 ∨ s = 8 := by omega
  rcases hs with rfl | rfl | rfl | rfl | rfl | rfl | rfl | rfl <;> decide
theorem and_mod (a s : Nat) (ha : a < 18446744073709551616) (h : 1 ≤ s ∧ s ≤ 8) : bits BinOp.and IntKind.u64 (a : Int) (18446744073709551615 / 2 ^ (64 - 8 * s)) = ((a % 256 ^ s : Nat) : Int) := by
  obtain ⟨h1, h2, h3⟩ := mask_int s h
  rw [h1, u64_and_nat a _ ha (by omega), Nat.and_two_pow_sub_one_eq_mod, h3]
theorem full_mod (s : Bool) (N : Nat) (l : List Nat) (hb : ∀ x ∈ l, x < 256) : le (full s N l) % 256 ^ l.length = le l := by
  have key : ∀ (l r : List Nat), le (l ++ r) = le l + 256 ^ l.length * le r := by
    intro l r
    induction l with
    | nil => simp [le]
    | cons x l ih =>
      simp only [List.cons_append, le, ih, List.length_cons, Nat.pow_succ, Nat.mul_add]
      rw [Nat.mul_comm (256 ^ l.length) 256, Nat.mul_assoc]
      omega
  unfold full
  rw [key, Nat.add_mul_mod_self_left]
  exact Nat.mod_eq_of_lt (le_lt l hb)
set_option maxHeartbeats 2000000 in
set_option maxRecDepth 100000 in
theorem back_a {T : World → Prop} (op by' : Int) (n : Nat) (w : World) (hT : T w) (l : List Nat) (k m width size : Nat) (t x0 : Int) (x2 x3 : Bool) (is st kn : Bool)
    (HA : Hid (Calls Try.prog 7 #[] w fun e w' => e = .returned (.bool true) ∧ Below w.heap.size w w'))
    (HK : Hid (∀ w w', T w → Below w.heap.size w w' → T w'))
    (HS : Hid (∀ W, T W → Calls Try.prog 12 #[.int .i64 op, .int .u64 (n : Int)] W (GivesS W l false k)))
    (HL : Hid (∀ W A c, Bytes W W.heap.size A l → (A = none → c = 0) → k ≤ c → T W → Calls Try.prog 10 #[.int .i64 by', .slice A k c] W (Num2 W m is)))
    (HX : Hid (∀ W, T W → Calls Try.prog 9 #[.int .i64 op] W (Acc4 W (x0, width, x2, x3))))
    (HY : Hid (∀ W, T W → Calls Try.prog 9 #[.int .i64 by'] W (Acc4 W (t, size, st, kn)))) (hk : k = 0) :
    Calls Try.prog 4 #[.int .i64 op, .int .i64 by', .int .u64 (n : Int)] w fun e w' => e = .returned (.bool true) ∧ Below w.heap.size w w' := by
  subst hk
  go_enter Try.func4, Try.ntmps4
  go_wp2_with fail
  refine HA.out.mono ?_
  rintro e w1 ⟨rfl, hb1⟩
  have hT1 := HK.out _ _ hT hb1
  go_wp2_with fail
  refine (HS.out _ hT1).mono ?_
  rintro e w2 ⟨A2, c2, rfl, hby, hnil, hcap, hb2⟩
  have hT2 := HK.out _ _ hT1 hb2
  have hb3 := hb1.trans (hb2.mono hb1.size)
  clear hT1 hb1 hb2 HA HS
  go_wp2_with fail
  refine (HL.out _ _ _ hby hnil hcap hT2).mono ?_
  rintro e w4 ⟨rfl, hb4⟩
  have hT4 := HK.out _ _ hT2 hb4
  have hb5 := hb3.trans (hb4.mono hb3.size)
  clear hT2 hb3 hb4 HL hby hnil hcap
  go_wp2_with fail
  refine (HX.out _ hT4).mono ?_
  rintro e w6 ⟨rfl, hb6⟩
  have hT6 := HK.out _ _ hT4 hb6
  have hb7 := hb5.trans (hb6.mono hb5.size)
  clear hT4 hb5 hb6 HX
  go_wp2_with fail
  refine (HY.out _ hT6).mono ?_
  rintro e w8 ⟨rfl, hb8⟩
  have hb9 := hb7.trans (hb8.mono hb7.size)
  clear hT6 hb7 hb8 HY HK hT
  go_wp2
  go_ret
  exact ⟨rfl, hb9⟩
set_option maxHeartbeats 2000000 in
set_option maxRecDepth 100000 in
theorem back_b1 {T : World → Prop} (op by' : Int) (n : Nat) (w : World) (hT : T w) (l : List Nat) (k width size : Nat) (t x0 : Int) (x2 x3 : Bool) (st : Bool)
    (HA : Hid (Calls Try.prog 7 #[] w fun e w' => e = .returned (.bool true) ∧ Below w.heap.size w w'))
    (HK : Hid (∀ w w', T w → Below w.heap.size w w' → T w'))
    (HS : Hid (∀ W, T W → Calls Try.prog 12 #[.int .i64 op, .int .u64 (n : Int)] W (GivesS W l true k)))
    (HL : Hid (∀ W A c, Bytes W W.heap.size A l → (A = none → c = 0) → k ≤ c → T W → Calls Try.prog 10 #[.int .i64 by', .slice A k c] W (Num2 W 0 false)))
    (HX : Hid (∀ W, T W → Calls Try.prog 9 #[.int .i64 op] W (Acc4 W (x0, width, x2, x3))))
    (HY : Hid (∀ W, T W → Calls Try.prog 9 #[.int .i64 by'] W (Acc4 W (t, size, st, false))))  :
    Calls Try.prog 4 #[.int .i64 op, .int .i64 by', .int .u64 (n : Int)] w fun e w' => e = .returned (.bool true) ∧ Below w.heap.size w w' := by
  go_enter Try.func4, Try.ntmps4
  go_wp2_with fail
  refine HA.out.mono ?_
  rintro e w1 ⟨rfl, hb1⟩
  have hT1 := HK.out _ _ hT hb1
  go_wp2_with fail
  refine (HS.out _ hT1).mono ?_
  rintro e w2 ⟨A2, c2, rfl, hby, hnil, hcap, hb2⟩
  have hT2 := HK.out _ _ hT1 hb2
  have hb3 := hb1.trans (hb2.mono hb1.size)
  clear hT1 hb1 hb2 HA HS
  go_wp2_with fail
  refine (HL.out _ _ _ hby hnil hcap hT2).mono ?_
  rintro e w4 ⟨rfl, hb4⟩
  have hT4 := HK.out _ _ hT2 hb4
  have hb5 := hb3.trans (hb4.mono hb3.size)
  clear hT2 hb3 hb4 HL hby hnil hcap
  go_wp2_with fail
  refine (HX.out _ hT4).mono ?_
  rintro e w6 ⟨rfl, hb6⟩
  have hT6 := HK.out _ _ hT4 hb6
  have hb7 := hb5.trans (hb6.mono hb5.size)
  clear hT4 hb5 hb6 HX
  go_wp2_with fail
  refine (HY.out _ hT6).mono ?_
  rintro e w8 ⟨rfl, hb8⟩
  have hb9 := hb7.trans (hb8.mono hb7.size)
  clear hT6 hb7 hb8 HY HK hT
  go_wp2
  go_ret
  exact ⟨rfl, hb9⟩
set_option maxHeartbeats 2000000 in
set_option maxRecDepth 100000 in
theorem back_b2 {T : World → Prop} (op by' : Int) (n : Nat) (w : World) (hT : T w) (l : List Nat) (k width size : Nat) (t x0 : Int) (x2 x3 : Bool) 
    (HA : Hid (Calls Try.prog 7 #[] w fun e w' => e = .returned (.bool true) ∧ Below w.heap.size w w'))
    (HK : Hid (∀ w w', T w → Below w.heap.size w w' → T w'))
    (HS : Hid (∀ W, T W → Calls Try.prog 12 #[.int .i64 op, .int .u64 (n : Int)] W (GivesS W l true k)))
    (HL : Hid (∀ W A c, Bytes W W.heap.size A l → (A = none → c = 0) → k ≤ c → T W → Calls Try.prog 10 #[.int .i64 by', .slice A k c] W (Num2 W 0 false)))
    (HX : Hid (∀ W, T W → Calls Try.prog 9 #[.int .i64 op] W (Acc4 W (x0, width, x2, x3))))
    (HY : Hid (∀ W, T W → Calls Try.prog 9 #[.int .i64 by'] W (Acc4 W (t, size, true, true))))  :
    Calls Try.prog 4 #[.int .i64 op, .int .i64 by', .int .u64 (n : Int)] w fun e w' => e = .returned (.bool true) ∧ Below w.heap.size w w' := by
  go_enter Try.func4, Try.ntmps4
  go_wp2_with fail
  refine HA.out.mono ?_
  rintro e w1 ⟨rfl, hb1⟩
  have hT1 := HK.out _ _ hT hb1
  go_wp2_with fail
  refine (HS.out _ hT1).mono ?_
  rintro e w2 ⟨A2, c2, rfl, hby, hnil, hcap, hb2⟩
  have hT2 := HK.out _ _ hT1 hb2
  have hb3 := hb1.trans (hb2.mono hb1.size)
  clear hT1 hb1 hb2 HA HS
  go_wp2_with fail
  refine (HL.out _ _ _ hby hnil hcap hT2).mono ?_
  rintro e w4 ⟨rfl, hb4⟩
  have hT4 := HK.out _ _ hT2 hb4
  have hb5 := hb3.trans (hb4.mono hb3.size)
  clear hT2 hb3 hb4 HL hby hnil hcap
  go_wp2_with fail
  refine (HX.out _ hT4).mono ?_
  rintro e w6 ⟨rfl, hb6⟩
  have hT6 := HK.out _ _ hT4 hb6
  have hb7 := hb5.trans (hb6.mono hb5.size)
  clear hT4 hb5 hb6 HX
  go_wp2_with fail
  refine (HY.out _ hT6).mono ?_
  rintro e w8 ⟨rfl, hb8⟩
  have hb9 := hb7.trans (hb8.mono hb7.size)
  clear hT6 hb7 hb8 HY HK hT
  go_wp2
  go_ret
  exact ⟨rfl, hb9⟩
set_option maxHeartbeats 2000000 in
set_option maxRecDepth 100000 in
theorem back_b3 {T : World → Prop} (op by' : Int) (n : Nat) (w : World) (hT : T w) (l : List Nat) (k width size : Nat) (t x0 : Int) (x2 x3 : Bool) 
    (HA : Hid (Calls Try.prog 7 #[] w fun e w' => e = .returned (.bool true) ∧ Below w.heap.size w w'))
    (HK : Hid (∀ w w', T w → Below w.heap.size w w' → T w'))
    (HS : Hid (∀ W, T W → Calls Try.prog 12 #[.int .i64 op, .int .u64 (n : Int)] W (GivesS W l true k)))
    (HL : Hid (∀ W A c, Bytes W W.heap.size A l → (A = none → c = 0) → k ≤ c → T W → Calls Try.prog 10 #[.int .i64 by', .slice A k c] W (Num2 W 0 false)))
    (HX : Hid (∀ W, T W → Calls Try.prog 9 #[.int .i64 op] W (Acc4 W (x0, width, x2, x3))))
    (HY : Hid (∀ W, T W → Calls Try.prog 9 #[.int .i64 by'] W (Acc4 W (t, size, false, true)))) (hne : size ≠ width) :
    Calls Try.prog 4 #[.int .i64 op, .int .i64 by', .int .u64 (n : Int)] w fun e w' => e = .returned (.bool true) ∧ Below w.heap.size w w' := by
  have hsw : ((size : Int) != (width : Int)) = true := by simp; omega
  clear hne
  go_enter Try.func4, Try.ntmps4
  go_wp2_with fail
  refine HA.out.mono ?_
  rintro e w1 ⟨rfl, hb1⟩
  have hT1 := HK.out _ _ hT hb1
  go_wp2_with fail
  refine (HS.out _ hT1).mono ?_
  rintro e w2 ⟨A2, c2, rfl, hby, hnil, hcap, hb2⟩
  have hT2 := HK.out _ _ hT1 hb2
  have hb3 := hb1.trans (hb2.mono hb1.size)
  clear hT1 hb1 hb2 HA HS
  go_wp2_with fail
  refine (HL.out _ _ _ hby hnil hcap hT2).mono ?_
  rintro e w4 ⟨rfl, hb4⟩
  have hT4 := HK.out _ _ hT2 hb4
  have hb5 := hb3.trans (hb4.mono hb3.size)
  clear hT2 hb3 hb4 HL hby hnil hcap
  go_wp2_with fail
  refine (HX.out _ hT4).mono ?_
  rintro e w6 ⟨rfl, hb6⟩
  have hT6 := HK.out _ _ hT4 hb6
  have hb7 := hb5.trans (hb6.mono hb5.size)
  clear hT4 hb5 hb6 HX
  go_wp2_with fail
  refine (HY.out _ hT6).mono ?_
  rintro e w8 ⟨rfl, hb8⟩
  have hb9 := hb7.trans (hb8.mono hb7.size)
  clear hT6 hb7 hb8 HY HK hT
  go_wp2
  go_ret
  exact ⟨rfl, hb9⟩
set_option maxHeartbeats 2000000 in
set_option maxRecDepth 100000 in
theorem back_c1 {T : World → Prop} (op by' : Int) (n : Nat) (w : World) (hT : T w) (l : List Nat) (k m width size : Nat) (x0 : Int) (x2 x3 : Bool) 
    (HA : Hid (Calls Try.prog 7 #[] w fun e w' => e = .returned (.bool true) ∧ Below w.heap.size w w'))
    (HK : Hid (∀ w w', T w → Below w.heap.size w w' → T w'))
    (HS : Hid (∀ W, T W → Calls Try.prog 12 #[.int .i64 op, .int .u64 (n : Int)] W (GivesS W l true k)))
    (HL : Hid (∀ W A c, Bytes W W.heap.size A l → (A = none → c = 0) → k ≤ c → T W → Calls Try.prog 10 #[.int .i64 by', .slice A k c] W (Num2 W m true)))
    (HX : Hid (∀ W, T W → Calls Try.prog 9 #[.int .i64 op] W (Acc4 W (x0, width, x2, x3))))
    (HY : Hid (∀ W, T W → Calls Try.prog 9 #[.int .i64 by'] W (Acc4 W (126, size, false, true)))) (v : Nat) (hw : 1 ≤ width ∧ width ≤ 8) (hsz : size = width) (hM : bits BinOp.and IntKind.u64 (m : Int) (18446744073709551615 / 2 ^ (64 - 8 * width)) = (v : Int)) (hN : bits BinOp.and IntKind.u64 (n : Int) (18446744073709551615 / 2 ^ (64 - 8 * width)) = (v : Int)) :
    Calls Try.prog 4 #[.int .i64 op, .int .i64 by', .int .u64 (n : Int)] w fun e w' => e = .returned (.bool true) ∧ Below w.heap.size w w' := by
  subst hsz
  go_enter Try.func4, Try.ntmps4
  go_wp2_with fail
  refine HA.out.mono ?_
  rintro e w1 ⟨rfl, hb1⟩
  have hT1 := HK.out _ _ hT hb1
  go_wp2_with fail
  refine (HS.out _ hT1).mono ?_
  rintro e w2 ⟨A2, c2, rfl, hby, hnil, hcap, hb2⟩
  have hT2 := HK.out _ _ hT1 hb2
  have hb3 := hb1.trans (hb2.mono hb1.size)
  clear hT1 hb1 hb2 HA HS
  go_wp2_with fail
  refine (HL.out _ _ _ hby hnil hcap hT2).mono ?_
  rintro e w4 ⟨rfl, hb4⟩
  have hT4 := HK.out _ _ hT2 hb4
  have hb5 := hb3.trans (hb4.mono hb3.size)
  clear hT2 hb3 hb4 HL hby hnil hcap
  go_wp2_with fail
  refine (HX.out _ hT4).mono ?_
  rintro e w6 ⟨rfl, hb6⟩
  have hT6 := HK.out _ _ hT4 hb6
  have hb7 := hb5.trans (hb6.mono hb5.size)
  clear hT4 hb5 hb6 HX
  go_wp2_with fail
  refine (HY.out _ hT6).mono ?_
  rintro e w8 ⟨rfl, hb8⟩
  have hb9 := hb7.trans (hb8.mono hb7.size)
  clear hT6 hb7 hb8 HY HK hT
  go_wp2
  go_ret
  exact ⟨rfl, hb9⟩
set_option maxHeartbeats 2000000 in
set_option maxRecDepth 100000 in
theorem back_c2 {T : World → Prop} (op by' : Int) (n : Nat) (w : World) (hT : T w) (l : List Nat) (k m width size : Nat) (x0 : Int) (x2 x3 : Bool) 
    (HA : Hid (Calls Try.prog 7 #[] w fun e w' => e = .returned (.bool true) ∧ Below w.heap.size w w'))
    (HK : Hid (∀ w w', T w → Below w.heap.size w w' → T w'))
    (HS : Hid (∀ W, T W → Calls Try.prog 12 #[.int .i64 op, .int .u64 (n : Int)] W (GivesS W l true k)))
    (HL : Hid (∀ W A c, Bytes W W.heap.size A l → (A = none → c = 0) → k ≤ c → T W → Calls Try.prog 10 #[.int .i64 by', .slice A k c] W (Num2 W m true)))
    (HX : Hid (∀ W, T W → Calls Try.prog 9 #[.int .i64 op] W (Acc4 W (x0, width, x2, x3))))
    (HY : Hid (∀ W, T W → Calls Try.prog 9 #[.int .i64 by'] W (Acc4 W (127, size, false, true)))) (v : Nat) (hw : 1 ≤ width ∧ width ≤ 8) (hsz : size = width) (hM : bits BinOp.and IntKind.u64 (m : Int) (18446744073709551615 / 2 ^ (64 - 8 * width)) = (v : Int)) (hN : bits BinOp.and IntKind.u64 (n : Int) (18446744073709551615 / 2 ^ (64 - 8 * width)) = (v : Int)) (hm : (m : Int) < 4294967296) :
    Calls Try.prog 4 #[.int .i64 op, .int .i64 by', .int .u64 (n : Int)] w fun e w' => e = .returned (.bool true) ∧ Below w.heap.size w w' := by
  subst hsz
  go_enter Try.func4, Try.ntmps4
  go_wp2_with fail
  refine HA.out.mono ?_
  rintro e w1 ⟨rfl, hb1⟩
  have hT1 := HK.out _ _ hT hb1
  go_wp2_with fail
  refine (HS.out _ hT1).mono ?_
  rintro e w2 ⟨A2, c2, rfl, hby, hnil, hcap, hb2⟩
  have hT2 := HK.out _ _ hT1 hb2
  have hb3 := hb1.trans (hb2.mono hb1.size)
  clear hT1 hb1 hb2 HA HS
  go_wp2_with fail
  refine (HL.out _ _ _ hby hnil hcap hT2).mono ?_
  rintro e w4 ⟨rfl, hb4⟩
  have hT4 := HK.out _ _ hT2 hb4
  have hb5 := hb3.trans (hb4.mono hb3.size)
  clear hT2 hb3 hb4 HL hby hnil hcap
  go_wp2_with fail
  refine (HX.out _ hT4).mono ?_
  rintro e w6 ⟨rfl, hb6⟩
  have hT6 := HK.out _ _ hT4 hb6
  have hb7 := hb5.trans (hb6.mono hb5.size)
  clear hT4 hb5 hb6 HX
  go_wp2_with fail
  refine (HY.out _ hT6).mono ?_
  rintro e w8 ⟨rfl, hb8⟩
  have hb9 := hb7.trans (hb8.mono hb7.size)
  clear hT6 hb7 hb8 HY HK hT
  go_wp2
  go_ret
  exact ⟨rfl, hb9⟩
section
variable {T : World → Prop} (D : Does T)
include D
theorem back_law (op by' : Int) (n : Nat) (w : World) (hT : T w) (ho : I64 op) (hy : I64 by') (hn : n < 18446744073709551616) :
    Calls Try.prog 4 #[.int .i64 op, .int .i64 by', .int .u64 (n : Int)] w fun e w' => e = .returned (.bool true) ∧ Below w.heap.size w w' := by
  have HA := Lib.hid (awake_any D w hT)
  have HK := Lib.hid D.keep
  have HS := Lib.hid (fun W hW => D.store op n _ W ho hn rfl hW)
  have HL : Hid (∀ W A c, Bytes W W.heap.size A (stVal op n).1 → (A = none → c = 0) → (stVal op n).1.length ≤ c → T W → Calls Try.prog 10 #[.int .i64 by', .slice A (stVal op n).1.length c] W (Num2 W (ldVal by' (stVal op n).1).1 (ldVal by' (stVal op n).1).2)) :=
    Lib.hid fun W A c h1 h2 h3 h4 => D.load by' A _ c W hy h1 h2 h3 (by have := stVal_len op n; omega) h4
  have HX := Lib.hid (fun W hW => D.acc op W ho hW)
  have HY := Lib.hid (fun W hW => D.acc by' W hy hW)
  by_cases hok : (stVal op n).2 = true
  · obtain ⟨k, hk, hst⟩ : ∃ k, kindOf op = some k ∧ k.store = true := by
      unfold stVal at hok
      cases hk : kindOf op with
      | none => rw [hk] at hok; simp at hok
      | some k =>
        rw [hk] at hok
        by_cases h : k.store = true
        · exact ⟨k, rfl, h⟩
        · simp [h] at hok
    have hs : stVal op n = (bytesOf k.bytes n, true) := by unfold stVal; rw [hk]; simp [hst]
    have ha : accVal op = (if k.bits = 32 then 127 else 126, k.bytes, k.store, true) := by unfold accVal; rw [hk]
    obtain ⟨r1, r2, r3⟩ := kindOf_right hk
    rw [hs] at HS HL
    rw [ha] at HX
    have hlen := bytesOf_len k.bytes n
    cases hk' : kindOf by' with
    | none =>
      have hl : ldVal by' (bytesOf k.bytes n) = (0, false) := by unfold ldVal; rw [hk']
      have ha' : accVal by' = (0, 0, false, false) := by unfold accVal; rw [hk']
      rw [hl] at HL
      rw [ha'] at HY
      exact back_b1 op by' n w hT _ _ _ _ _ _ _ _ _ HA HK HS HL HX HY
    | some k' =>
      obtain ⟨q1, q2, q3⟩ := kindOf_right hk'
      have ha' : accVal by' = (if k'.bits = 32 then 127 else 126, k'.bytes, k'.store, true) := by unfold accVal; rw [hk']
      rw [ha'] at HY
      by_cases hst' : k'.store = true
      · have hl : ldVal by' (bytesOf k.bytes n) = (0, false) := by unfold ldVal; rw [hk']; simp [hst']
        rw [hl] at HL
        rw [hst'] at HY
        exact back_b2 op by' n w hT _ _ _ _ _ _ _ _ HA HK HS HL HX HY
      · have hst' : k'.store = false := by simpa using hst'
        rw [hst'] at HY
        by_cases hb : k'.bytes = k.bytes
        · have hl : ldVal by' (bytesOf k.bytes n) = (le (full k'.signed (k'.bits / 8) (bytesOf k.bytes n)), true) := by unfold ldVal; rw [hk']; simp [hst', hlen, hb]
          rw [hl] at HL
          have hby := bytesOf_byte k.bytes n
          have hfm := full_mod k'.signed (k'.bits / 8) (bytesOf k.bytes n) hby
          rw [hlen, le_bytesOf] at hfm
          have hN8 : k.bytes ≤ k'.bits / 8 := by omega
          have hmlt := le_lt _ (full_byte k'.signed (k'.bits / 8) _ hby)
          rw [full_len _ _ _ (by rw [hlen]; exact hN8)] at hmlt
          have hm64 : le (full k'.signed (k'.bits / 8) (bytesOf k.bytes n)) < 18446744073709551616 := by
            have h8 : k'.bits / 8 ≤ 8 := by omega
            have : (256 : Nat) ^ (k'.bits / 8) ≤ 256 ^ 8 := Nat.pow_le_pow_right (by omega) h8
            have h9 : (256 : Nat) ^ 8 = 18446744073709551616 := by decide
            omega
          have hM := and_mod _ k.bytes hm64 ⟨r1, r2⟩
          have hN := and_mod n k.bytes hn ⟨r1, r2⟩
          rw [hfm] at hM
          by_cases h32 : k'.bits = 32
          · rw [if_pos h32] at HY
            have hmi : ((le (full k'.signed (k'.bits / 8) (bytesOf k.bytes n)) : Nat) : Int) < 4294967296 := by
              have : k'.bits / 8 = 4 := by omega
              rw [this] at hmlt ⊢
              have h9 : (256 : Nat) ^ 4 = 4294967296 := by decide
              omega
            exact back_c2 op by' n w hT _ _ _ _ _ _ _ _ HA HK HS HL HX HY _ ⟨r1, r2⟩ hb hM hN hmi
          · rw [if_neg h32] at HY
            exact back_c1 op by' n w hT _ _ _ _ _ _ _ _ HA HK HS HL HX HY _ ⟨r1, r2⟩ hb hM hN
        · have hl : ldVal by' (bytesOf k.bytes n) = (0, false) := by unfold ldVal; rw [hk']; simp [hlen, hb]
          rw [hl] at HL
          exact back_b3 op by' n w hT _ _ _ _ _ _ _ _ HA HK HS HL HX HY hb
  · have hs : stVal op n = ([], false) := by
      unfold stVal at hok ⊢
      cases hk : kindOf op with
      | none => rfl
      | some k =>
        rw [hk] at hok
        by_cases h : k.store = true
        · simp [h] at hok
        · simp [h]
    rw [hs] at HS HL
    exact back_a op by' n w hT _ _ _ _ _ _ _ _ _ _ _ _ HA HK HS HL HX HY rfl
end
end Go.Proofs.Ytaagingcjmkcdaa.Pack
