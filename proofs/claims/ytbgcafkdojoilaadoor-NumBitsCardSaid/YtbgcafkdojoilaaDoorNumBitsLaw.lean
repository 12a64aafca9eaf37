/-
  trammellaw03.NumBits answers true for every two numbers. Condition: 'Does T', and T holds of the world.
-/
import Derived.Test.YtbgcafkdojoilaaDoorNumLawsLaw
import Derived.Deep.RegionWith
namespace Go.Proofs.YtbgcafkdojoilaaDoor.Num
open Go.RowKit

theorem pc_flip (n l w W : Nat) (hw : w ≤ W) (h : ∀ i, i < W → l.testBit i = true) : pcF n w + pcF (n ^^^ l) w = w := by
  induction w with
  | zero => simp [pcF]
  | succ w ih =>
    have h1 := ih (by omega)
    have h2 := h w (by omega)
    have h3 := bitN_le n w
    have h4 := bitN_le (n ^^^ l) w
    have h5 := bitN_testBit (n ^^^ l) w
    rw [Nat.testBit_xor, h2, bitN_testBit n w] at h5
    have h6 : bitN n w = 0 ∨ bitN n w = 1 := by omega
    have h7 : bitN n w + bitN (n ^^^ l) w = 1 := by
      rcases h6 with h6 | h6
      · simp [h6] at h5; omega
      · simp [h6] at h5; omega
    simp only [pcF]
    omega
theorem bit_zero (i : Nat) : bitN 0 i = 0 := by unfold bitN; simp
theorem lz_zero (w : Nat) : lzF 0 w = w := by
  induction w with
  | zero => rfl
  | succ w ih => rw [lzF_one 0 w (bit_zero w), ih]
theorem tz_zero (i d : Nat) : tzF 0 i d = d := by
  induction d generalizing i with
  | zero => rfl
  | succ d ih => rw [tzF_one 0 i d (bit_zero i), ih]
theorem lz_spec (w n : Nat) (h : n < 2 ^ w) (h0 : n ≠ 0) : lzF n w < w ∧ n / 2 ^ (w - 1 - lzF n w) = 1 := by
  induction w with
  | zero => simp at h; omega
  | succ w ih =>
    have hp : (2 : Nat) ^ (w + 1) = 2 ^ w * 2 := Nat.pow_succ ..
    have hpos : 0 < (2 : Nat) ^ w := Nat.pow_pos (by omega)
    have hd : n / 2 ^ w < 2 := by rw [Nat.div_lt_iff_lt_mul hpos]; omega
    by_cases hb : bitN n w = 0
    · have hz : n / 2 ^ w = 0 := by
        unfold bitN at hb
        generalize n / 2 ^ w = D at *
        omega
      have hn : n < 2 ^ w := by
        rcases Nat.lt_or_ge n (2 ^ w) with hl | hl
        · exact hl
        · have := Nat.div_le_div_right (c := 2 ^ w) hl
          rw [Nat.div_self hpos] at this
          omega
      obtain ⟨h1, h2⟩ := ih hn
      rw [lzF_one n w hb]
      refine ⟨by omega, ?_⟩
      rw [show w + 1 - 1 - (lzF n w + 1) = w - 1 - lzF n w from by omega]
      exact h2
    · rw [lzF_none n w hb]
      refine ⟨by omega, ?_⟩
      rw [show w + 1 - 1 - 0 = w from rfl]
      unfold bitN at hb
      generalize n / 2 ^ w = D at *
      omega
theorem tz_spec (d i n : Nat) (hi : n % 2 ^ i = 0) (h : n < 2 ^ (i + d)) (h0 : n ≠ 0) : tzF n i d < d ∧ bitN n (i + tzF n i d) = 1 ∧ n % 2 ^ (i + tzF n i d) = 0 := by
  induction d generalizing i with
  | zero =>
    rw [Nat.add_zero] at h
    rw [Nat.mod_eq_of_lt h] at hi
    exact absurd hi h0
  | succ d ih =>
    have hb1 := bitN_le n i
    by_cases hb : bitN n i = 0
    · have hm : n % 2 ^ (i + 1) = 0 := by
        have e : n % 2 ^ (i + 1) = n % 2 ^ i + bitN n i * 2 ^ i := by
          unfold bitN
          rw [Nat.pow_succ, Nat.mod_mul, Nat.mul_comm (2 ^ i)]
        rw [e, hi, hb, Nat.zero_mul]
      obtain ⟨h1, h2, h3⟩ := ih (i + 1) hm (by rw [show i + 1 + d = i + (d + 1) from by omega]; exact h)
      rw [tzF_one n i d hb]
      rw [show i + 1 + tzF n (i + 1) d = i + (tzF n (i + 1) d + 1) from by omega] at h2 h3
      exact ⟨by omega, h2, h3⟩
    · rw [tzF_none n i d hb]
      exact ⟨by omega, by rw [Nat.add_zero]; omega, by rw [Nat.add_zero]; exact hi⟩
theorem and_one (n k : Nat) (hn : n < 18446744073709551616) (h : bitN n k = 1) : (bits .and .u64 ((n : Int) / 2 ^ k) 1 != 1) = false := by
  have e : (n : Int) / 2 ^ k = ((n / 2 ^ k : Nat) : Int) := by simp
  have hl : n / 2 ^ k ≤ n := Nat.div_le_self _ _
  rw [e, show (1 : Int) = ((1 : Nat) : Int) from rfl, u64_and_nat _ 1 (by omega) (by omega), Nat.and_one_is_mod]
  have h2 : n / 2 ^ k % 2 = 1 := h
  rw [h2]
  rfl
theorem and_under (n k : Nat) (hn : n < 18446744073709551616) (hk : k < 64) (h : n % 2 ^ k = 0) : (bits .and .u64 (n : Int) (IntKind.u64.wrap (IntKind.u64.wrap (2 ^ k) - 1)) != 0) = false := by
  have hp : (2 : Nat) ^ k < 2 ^ 64 := Nat.pow_lt_pow_right (by omega) hk
  have hpos : 0 < (2 : Nat) ^ k := Nat.pow_pos (by omega)
  have e1 : (2 : Int) ^ k = ((2 ^ k : Nat) : Int) := by simp
  have e2 : IntKind.u64.wrap (IntKind.u64.wrap (2 ^ k) - 1) = ((2 ^ k - 1 : Nat) : Int) := by
    rw [e1]
    generalize (2 : Nat) ^ k = P at *
    rw [IntKind.wrap_u64, IntKind.wrap_u64]
    omega
  rw [e2, u64_and_nat n _ hn (by omega), Nat.and_two_pow_sub_one_eq_mod, h]
  rfl
theorem all_32 (a : Nat) (ha : a < 18446744073709551616) : bits .and .u64 (a : Int) 4294967295 = ((a % 4294967296 : Nat) : Int) := by
  rw [show (4294967295 : Int) = ((4294967295 : Nat) : Int) from rfl, u64_and_nat a 4294967295 ha (by omega)]
  rw [show a &&& 4294967295 = a % 4294967296 from Nat.and_two_pow_sub_one_eq_mod a 32]
theorem flip_32 (n : Nat) (h : n < 4294967296) : n ^^^ 4294967295 < 4294967296 ∧ bits .xor .u64 ((n : Nat) : Int) 4294967295 = ((n ^^^ 4294967295 : Nat) : Int) ∧ pcF n 32 + pcF (n ^^^ 4294967295) 32 = 32 := by
  refine ⟨Nat.xor_lt_two_pow (n := 32) h (by omega), ?_, ?_⟩
  · rw [show (4294967295 : Int) = ((4294967295 : Nat) : Int) from rfl, u64_xor_nat n 4294967295 (by omega) (by omega)]
  · exact pc_flip n 4294967295 32 32 (Nat.le_refl _) (fun i hi => by
      have h1 : (4294967295 : Nat).testBit i = true := by
        rw [show (4294967295 : Nat) = 2 ^ 32 - 1 from by decide, Nat.testBit_two_pow_sub_one]; simp; omega
      exact h1)
theorem own_32 (n : Nat) (h : n < 4294967296) : cutN n 32 = n := Nat.mod_eq_of_lt h
theorem un_pc_32 (n : Nat) (h : n < 4294967296) : unVal 105 n = (pcF n 32, true) := by
  have e : unVal 105 n = (pcF (cutN n 32) 32, true) := rfl
  rw [e, own_32 n h]
theorem un_lz_32 (n : Nat) (h : n < 4294967296) : unVal 103 n = (lzF n 32, true) := by
  have e : unVal 103 n = (lzF (cutN n 32) 32, true) := rfl
  rw [e, own_32 n h]
theorem un_tz_32 (n : Nat) (h : n < 4294967296) : unVal 104 n = (tzF n 0 32, true) := by
  have e : unVal 104 n = (tzF (cutN n 32) 0 32, true) := rfl
  rw [e, own_32 n h]
theorem bin_rl_32 (n s : Nat) (h : n < 4294967296) : binAll 119 n (s % 32) = (turnN n (s % 32) 32, 0, true) := by
  have e : binAll 119 n (s % 32) = (turnN (cutN n 32) (cutN (s % 32) 32 % 32) 32, 0, true) := rfl
  rw [e, own_32 n h, own_32 (s % 32) (by omega), Nat.mod_mod]
theorem bin_rr_32 (n s : Nat) (h : n < 4294967296) : binAll 120 n (32 - s % 32) = (turnN n (s % 32) 32, 0, true) := by
  have e : binAll 120 n (32 - s % 32) = (turnN (cutN n 32) (32 - cutN (32 - s % 32) 32 % 32) 32, 0, true) := rfl
  rw [e, own_32 n h, own_32 (32 - s % 32) (by omega)]
  have e2 : turnN n (32 - (32 - s % 32) % 32) 32 = turnN n (s % 32) 32 := by
    unfold turnN
    rw [show (32 - (32 - s % 32) % 32) % 32 = s % 32 % 32 from by omega]
  rw [e2]
theorem zero_32 (n : Nat) (_h : n < 4294967296) : n = 0 → lzF n 32 = 32 ∧ tzF n 0 32 = 32 := by
  intro h0
  subst h0
  exact ⟨lz_zero 32, tz_zero 0 32⟩
theorem first_32 (n : Nat) (h : n < 4294967296) (h0 : n ≠ 0) : ((n : Int) / 2 ^ (31 - lzF n 32) != 1) = false ∧ (bits .and .u64 ((n : Int) / 2 ^ tzF n 0 32) 1 != 1) = false ∧ (bits .and .u64 (n : Int) (IntKind.u64.wrap (IntKind.u64.wrap (2 ^ tzF n 0 32) - 1)) != 0) = false ∧ lzF n 32 < 32 ∧ tzF n 0 32 < 32 := by
  obtain ⟨h1, h2⟩ := lz_spec 32 n h h0
  obtain ⟨h3, h4, h5⟩ := tz_spec 32 0 n (by rw [Nat.pow_zero, Nat.mod_one]) (by rw [Nat.zero_add]; exact h) h0
  rw [Nat.zero_add] at h4 h5
  refine ⟨?_, ?_, ?_, h1, h3⟩
  · have e : (n : Int) / 2 ^ (31 - lzF n 32) = ((n / 2 ^ (31 - lzF n 32) : Nat) : Int) := by simp
    rw [e, show 31 - lzF n 32 = 32 - 1 - lzF n 32 from rfl, h2]
    rfl
  · exact and_one n (tzF n 0 32) (by omega) h4
  · exact and_under n (tzF n 0 32) (by omega) (by omega) h5
theorem all_64 (a : Nat) (ha : a < 18446744073709551616) : bits .and .u64 (a : Int) 18446744073709551615 = ((a % 18446744073709551616 : Nat) : Int) := by
  rw [show (18446744073709551615 : Int) = ((18446744073709551615 : Nat) : Int) from rfl, u64_and_nat a 18446744073709551615 ha (by omega)]
  rw [show a &&& 18446744073709551615 = a % 18446744073709551616 from Nat.and_two_pow_sub_one_eq_mod a 64]
theorem flip_64 (n : Nat) (h : n < 18446744073709551616) : n ^^^ 18446744073709551615 < 18446744073709551616 ∧ bits .xor .u64 ((n : Nat) : Int) 18446744073709551615 = ((n ^^^ 18446744073709551615 : Nat) : Int) ∧ pcF n 64 + pcF (n ^^^ 18446744073709551615) 64 = 64 := by
  refine ⟨Nat.xor_lt_two_pow (n := 64) h (by omega), ?_, ?_⟩
  · rw [show (18446744073709551615 : Int) = ((18446744073709551615 : Nat) : Int) from rfl, u64_xor_nat n 18446744073709551615 (by omega) (by omega)]
  · exact pc_flip n 18446744073709551615 64 64 (Nat.le_refl _) (fun i hi => by
      have h1 : (18446744073709551615 : Nat).testBit i = true := by
        rw [show (18446744073709551615 : Nat) = 2 ^ 64 - 1 from by decide, Nat.testBit_two_pow_sub_one]; simp; omega
      exact h1)
theorem own_64 (n : Nat) (h : n < 18446744073709551616) : cutN n 64 = n := Nat.mod_eq_of_lt h
theorem un_pc_64 (n : Nat) (h : n < 18446744073709551616) : unVal 123 n = (pcF n 64, true) := by
  have e : unVal 123 n = (pcF (cutN n 64) 64, true) := rfl
  rw [e, own_64 n h]
theorem un_lz_64 (n : Nat) (h : n < 18446744073709551616) : unVal 121 n = (lzF n 64, true) := by
  have e : unVal 121 n = (lzF (cutN n 64) 64, true) := rfl
  rw [e, own_64 n h]
theorem un_tz_64 (n : Nat) (h : n < 18446744073709551616) : unVal 122 n = (tzF n 0 64, true) := by
  have e : unVal 122 n = (tzF (cutN n 64) 0 64, true) := rfl
  rw [e, own_64 n h]
theorem bin_rl_64 (n s : Nat) (h : n < 18446744073709551616) : binAll 137 n (s % 64) = (turnN n (s % 64) 64, 0, true) := by
  have e : binAll 137 n (s % 64) = (turnN (cutN n 64) (cutN (s % 64) 64 % 64) 64, 0, true) := rfl
  rw [e, own_64 n h, own_64 (s % 64) (by omega), Nat.mod_mod]
theorem bin_rr_64 (n s : Nat) (h : n < 18446744073709551616) : binAll 138 n (64 - s % 64) = (turnN n (s % 64) 64, 0, true) := by
  have e : binAll 138 n (64 - s % 64) = (turnN (cutN n 64) (64 - cutN (64 - s % 64) 64 % 64) 64, 0, true) := rfl
  rw [e, own_64 n h, own_64 (64 - s % 64) (by omega)]
  have e2 : turnN n (64 - (64 - s % 64) % 64) 64 = turnN n (s % 64) 64 := by
    unfold turnN
    rw [show (64 - (64 - s % 64) % 64) % 64 = s % 64 % 64 from by omega]
  rw [e2]
theorem zero_64 (n : Nat) (_h : n < 18446744073709551616) : n = 0 → lzF n 64 = 64 ∧ tzF n 0 64 = 64 := by
  intro h0
  subst h0
  exact ⟨lz_zero 64, tz_zero 0 64⟩
theorem first_64 (n : Nat) (h : n < 18446744073709551616) (h0 : n ≠ 0) : ((n : Int) / 2 ^ (63 - lzF n 64) != 1) = false ∧ (bits .and .u64 ((n : Int) / 2 ^ tzF n 0 64) 1 != 1) = false ∧ (bits .and .u64 (n : Int) (IntKind.u64.wrap (IntKind.u64.wrap (2 ^ tzF n 0 64) - 1)) != 0) = false ∧ lzF n 64 < 64 ∧ tzF n 0 64 < 64 := by
  obtain ⟨h1, h2⟩ := lz_spec 64 n h h0
  obtain ⟨h3, h4, h5⟩ := tz_spec 64 0 n (by rw [Nat.pow_zero, Nat.mod_one]) (by rw [Nat.zero_add]; exact h) h0
  rw [Nat.zero_add] at h4 h5
  refine ⟨?_, ?_, ?_, h1, h3⟩
  · have e : (n : Int) / 2 ^ (63 - lzF n 64) = ((n / 2 ^ (63 - lzF n 64) : Nat) : Int) := by simp
    rw [e, show 63 - lzF n 64 = 64 - 1 - lzF n 64 from rfl, h2]
    rfl
  · exact and_one n (tzF n 0 64) (by omega) h4
  · exact and_under n (tzF n 0 64) (by omega) (by omega) h5
section
variable {T : World → Prop} (D : Does T)
include D
set_option maxHeartbeats 8000000 in
set_option maxRecDepth 100000 in
theorem bits_law (a s : Nat) (w : World) (hT : T w) (ha : a < 18446744073709551616) (hs : s < 18446744073709551616) :
    Calls Tryd.prog 7 #[.int .u64 (a : Int), .int .u64 (s : Int)] w fun e w' => e = .returned (.bool true) ∧ Below w.heap.size w w' := by
  have HA := Lib.hid (awake_any D w hT)
  have HK := Lib.hid D.keep
  have HD := Lib.hid D
  have HAB := Lib.hid (And.intro ha hs)
  clear D ha hs
  go_enter Tryd.func7, Tryd.ntmps7
  go_wp2_with (go_at_call 9; refine HA.out.mono ?_; rintro e w1 ⟨rfl, hb1⟩)
  have hT1 := HK.out _ _ hT hb1
  have hal : Below w1.heap.size w1 (w1.alloc (.cells #[.int .i64 32, .int .i64 105, .int .i64 103, .int .i64 104, .int .i64 119, .int .i64 120, .int .i64 64, .int .i64 123, .int .i64 121, .int .i64 122, .int .i64 137, .int .i64 138] 40)) := (Below.refl _ _).alloc (Nat.le_refl _) _
  have C0 := Lib.hid (show (w1.alloc (.cells #[.int .i64 32, .int .i64 105, .int .i64 103, .int .i64 104, .int .i64 119, .int .i64 120, .int .i64 64, .int .i64 123, .int .i64 121, .int .i64 122, .int .i64 137, .int .i64 138] 40)).cell? ⟨w1.heap.size, 0, none⟩ = some (.int .i64 32) from by simp)
  have C1 := Lib.hid (show (w1.alloc (.cells #[.int .i64 32, .int .i64 105, .int .i64 103, .int .i64 104, .int .i64 119, .int .i64 120, .int .i64 64, .int .i64 123, .int .i64 121, .int .i64 122, .int .i64 137, .int .i64 138] 40)).cell? ⟨w1.heap.size, 1, none⟩ = some (.int .i64 105) from by simp)
  have C2 := Lib.hid (show (w1.alloc (.cells #[.int .i64 32, .int .i64 105, .int .i64 103, .int .i64 104, .int .i64 119, .int .i64 120, .int .i64 64, .int .i64 123, .int .i64 121, .int .i64 122, .int .i64 137, .int .i64 138] 40)).cell? ⟨w1.heap.size, 2, none⟩ = some (.int .i64 103) from by simp)
  have C3 := Lib.hid (show (w1.alloc (.cells #[.int .i64 32, .int .i64 105, .int .i64 103, .int .i64 104, .int .i64 119, .int .i64 120, .int .i64 64, .int .i64 123, .int .i64 121, .int .i64 122, .int .i64 137, .int .i64 138] 40)).cell? ⟨w1.heap.size, 3, none⟩ = some (.int .i64 104) from by simp)
  have C4 := Lib.hid (show (w1.alloc (.cells #[.int .i64 32, .int .i64 105, .int .i64 103, .int .i64 104, .int .i64 119, .int .i64 120, .int .i64 64, .int .i64 123, .int .i64 121, .int .i64 122, .int .i64 137, .int .i64 138] 40)).cell? ⟨w1.heap.size, 4, none⟩ = some (.int .i64 119) from by simp)
  have C5 := Lib.hid (show (w1.alloc (.cells #[.int .i64 32, .int .i64 105, .int .i64 103, .int .i64 104, .int .i64 119, .int .i64 120, .int .i64 64, .int .i64 123, .int .i64 121, .int .i64 122, .int .i64 137, .int .i64 138] 40)).cell? ⟨w1.heap.size, 5, none⟩ = some (.int .i64 120) from by simp)
  have C6 := Lib.hid (show (w1.alloc (.cells #[.int .i64 32, .int .i64 105, .int .i64 103, .int .i64 104, .int .i64 119, .int .i64 120, .int .i64 64, .int .i64 123, .int .i64 121, .int .i64 122, .int .i64 137, .int .i64 138] 40)).cell? ⟨w1.heap.size, 6, none⟩ = some (.int .i64 64) from by simp)
  have C7 := Lib.hid (show (w1.alloc (.cells #[.int .i64 32, .int .i64 105, .int .i64 103, .int .i64 104, .int .i64 119, .int .i64 120, .int .i64 64, .int .i64 123, .int .i64 121, .int .i64 122, .int .i64 137, .int .i64 138] 40)).cell? ⟨w1.heap.size, 7, none⟩ = some (.int .i64 123) from by simp)
  have C8 := Lib.hid (show (w1.alloc (.cells #[.int .i64 32, .int .i64 105, .int .i64 103, .int .i64 104, .int .i64 119, .int .i64 120, .int .i64 64, .int .i64 123, .int .i64 121, .int .i64 122, .int .i64 137, .int .i64 138] 40)).cell? ⟨w1.heap.size, 8, none⟩ = some (.int .i64 121) from by simp)
  have C9 := Lib.hid (show (w1.alloc (.cells #[.int .i64 32, .int .i64 105, .int .i64 103, .int .i64 104, .int .i64 119, .int .i64 120, .int .i64 64, .int .i64 123, .int .i64 121, .int .i64 122, .int .i64 137, .int .i64 138] 40)).cell? ⟨w1.heap.size, 9, none⟩ = some (.int .i64 122) from by simp)
  have C10 := Lib.hid (show (w1.alloc (.cells #[.int .i64 32, .int .i64 105, .int .i64 103, .int .i64 104, .int .i64 119, .int .i64 120, .int .i64 64, .int .i64 123, .int .i64 121, .int .i64 122, .int .i64 137, .int .i64 138] 40)).cell? ⟨w1.heap.size, 10, none⟩ = some (.int .i64 137) from by simp)
  have C11 := Lib.hid (show (w1.alloc (.cells #[.int .i64 32, .int .i64 105, .int .i64 103, .int .i64 104, .int .i64 119, .int .i64 120, .int .i64 64, .int .i64 123, .int .i64 121, .int .i64 122, .int .i64 137, .int .i64 138] 40)).cell? ⟨w1.heap.size, 11, none⟩ = some (.int .i64 138) from by simp)
  have hT2 := HK.out _ _ hT1 hal
  have hb2 := hb1.trans (hal.mono hb1.size)
  have hsz : (w1.alloc (.cells #[.int .i64 32, .int .i64 105, .int .i64 103, .int .i64 104, .int .i64 119, .int .i64 120, .int .i64 64, .int .i64 123, .int .i64 121, .int .i64 122, .int .i64 137, .int .i64 138] 40)).heap.size = w1.heap.size + 1 := by simp
  have HSZ := Lib.hid hsz
  clear hal hb1 hT1 hsz HA
  generalize w1.alloc _ = W0 at *
  generalize w1.heap.size = B at *
  go_loopw [30] (fun i wr => ∃ j : Nat, j ≤ 2 ∧ i = .int .i64 (j : Int) ∧ Below W0.heap.size W0 wr ∧ T wr) (fun i _ => 2 - (intOf i).toNat)
  case atStart => exact ⟨0, by omega, rfl, Below.refl _ _, hT2⟩
  case round =>
    obtain ⟨j, hj, rfl, hbr, hTr⟩ := hrel
    clear hT2
    by_cases hlt : j < 2
    · have hjj : j = 0 ∨ j = 1 := by omega
      clear hlt hj
      rcases hjj with rfl | rfl
      · rw [show (((0 : Nat) : Int)) = 0 from rfl]
        have h0 : wr.cell? ⟨B, 0, none⟩ = some (.int .i64 32) := (hbr.cell (p := ⟨B, 0, none⟩) (by show B < _; rw [HSZ.out]; omega)).trans C0.out
        have h1 : wr.cell? ⟨B, 1, none⟩ = some (.int .i64 105) := (hbr.cell (p := ⟨B, 1, none⟩) (by show B < _; rw [HSZ.out]; omega)).trans C1.out
        have h2 : wr.cell? ⟨B, 2, none⟩ = some (.int .i64 103) := (hbr.cell (p := ⟨B, 2, none⟩) (by show B < _; rw [HSZ.out]; omega)).trans C2.out
        have h3 : wr.cell? ⟨B, 3, none⟩ = some (.int .i64 104) := (hbr.cell (p := ⟨B, 3, none⟩) (by show B < _; rw [HSZ.out]; omega)).trans C3.out
        have h4 : wr.cell? ⟨B, 4, none⟩ = some (.int .i64 119) := (hbr.cell (p := ⟨B, 4, none⟩) (by show B < _; rw [HSZ.out]; omega)).trans C4.out
        have h5 : wr.cell? ⟨B, 5, none⟩ = some (.int .i64 120) := (hbr.cell (p := ⟨B, 5, none⟩) (by show B < _; rw [HSZ.out]; omega)).trans C5.out
        have hba : Below wr.heap.size wr (wr.alloc (.cells #[.int .i64 32, .int .i64 105, .int .i64 103, .int .i64 104, .int .i64 119, .int .i64 120] 40)) := (Below.refl _ _).alloc (Nat.le_refl _) _
        have hTa := HK.out _ _ hTr hba
        obtain ⟨n, hnl, hn⟩ : ∃ n, n < 4294967296 ∧ bits .and .u64 (a : Int) 4294967295 = ((n : Nat) : Int) := ⟨a % 4294967296, Nat.mod_lt _ (by omega), all_32 a HAB.out.1⟩
        obtain ⟨x, hxl, hx, hpc⟩ : ∃ x, x < 4294967296 ∧ bits .xor .u64 ((n : Nat) : Int) 4294967295 = ((x : Nat) : Int) ∧ pcF n 32 + pcF x 32 = 32 := ⟨n ^^^ 4294967295, flip_32 n hnl⟩
        have hU1 : unVal 105 n = (pcF n 32, true) := un_pc_32 n hnl
        have hU2 : unVal 105 x = (pcF x 32, true) := un_pc_32 x hxl
        have hU3 : unVal 103 n = (lzF n 32, true) := un_lz_32 n hnl
        have hU4 : unVal 104 n = (tzF n 0 32, true) := un_tz_32 n hnl
        have hl1 : binAll 119 n (s % 32) = (turnN n (s % 32) 32, 0, true) := bin_rl_32 n s hnl
        have hl2 : binAll 120 n (32 - s % 32) = (turnN n (s % 32) 32, 0, true) := bin_rr_32 n s hnl
        have H1 := Lib.hid (fun W hW => un_is HD.out W hW (i64 105 (by omega) (by omega)) (by omega) hU1)
        have H2 := Lib.hid (fun W hW => un_is HD.out W hW (i64 105 (by omega) (by omega)) (by omega) hU2)
        have H3 := Lib.hid (fun W hW => un_is HD.out W hW (i64 103 (by omega) (by omega)) (by omega) hU3)
        have H4 := Lib.hid (fun W hW => un_is HD.out W hW (i64 104 (by omega) (by omega)) (by omega) hU4)
        have H5 := Lib.hid (fun W hW => bin_is HD.out W hW (i64 119 (by omega) (by omega)) (by omega) (by omega) hl1)
        have H6 := Lib.hid (fun W hW => bin_is HD.out W hW (i64 120 (by omega) (by omega)) (by omega) (by omega) hl2)
        have hp1 := pcF_le n 32
        have hp2 := pcF_le x 32
        have hp3 := lzF_le n 32
        have hp4 := tzF_le n 0 32
        have HZ := Lib.hid (zero_32 n hnl)
        have HNZ := Lib.hid (fun h => first_32 n hnl h)
        have HN := Lib.hid hn
        have HX := Lib.hid hx
        have hsm : (s : Int).tmod 32 = ((s % 32 : Nat) : Int) := by rw [Int.tmod_eq_emod_of_nonneg (by omega)]; omega
        have hsub : IntKind.u64.wrap (32 - ((s % 32 : Nat) : Int)) = ((32 - s % 32 : Nat) : Int) := by rw [IntKind.wrap_u64]; omega
        have hs1 : s % 32 < 32 := Nat.mod_lt _ (by omega)
        generalize turnN n (s % 32) 32 = L at *
        generalize pcF n 32 = c1 at *
        generalize pcF x 32 = c2 at *
        generalize lzF n 32 = up at *
        generalize tzF n 0 32 = dn at *
        have HSM := Lib.hid hsm
        have HSUB := Lib.hid hsub
        have hcc : ((c1 : Int) + (c2 : Int) != 32) = false := by simp; omega
        clear hn hx hU1 hU2 hU3 hU4 hl1 hl2 hsm hsub hnl hxl hpc
        go_wp2_with fail
        rw [HN.out]
        refine (H1.out _ hTa).mono ?_
        rintro e wA ⟨rfl, hbx⟩
        have a0 : wA.cell? ⟨wr.heap.size, 0, none⟩ = some (.int .i64 32) := (hbx.cell (p := ⟨wr.heap.size, 0, none⟩) (by simp)).trans (by simp)
        have a1 : wA.cell? ⟨wr.heap.size, 1, none⟩ = some (.int .i64 105) := (hbx.cell (p := ⟨wr.heap.size, 1, none⟩) (by simp)).trans (by simp)
        have a2 : wA.cell? ⟨wr.heap.size, 2, none⟩ = some (.int .i64 103) := (hbx.cell (p := ⟨wr.heap.size, 2, none⟩) (by simp)).trans (by simp)
        have a3 : wA.cell? ⟨wr.heap.size, 3, none⟩ = some (.int .i64 104) := (hbx.cell (p := ⟨wr.heap.size, 3, none⟩) (by simp)).trans (by simp)
        have a4 : wA.cell? ⟨wr.heap.size, 4, none⟩ = some (.int .i64 119) := (hbx.cell (p := ⟨wr.heap.size, 4, none⟩) (by simp)).trans (by simp)
        have a5 : wA.cell? ⟨wr.heap.size, 5, none⟩ = some (.int .i64 120) := (hbx.cell (p := ⟨wr.heap.size, 5, none⟩) (by simp)).trans (by simp)
        have hTA := HK.out _ _ hTa hbx
        have hbA := hba.trans (hbx.mono hba.size)
        have hlA : wr.heap.size < wA.heap.size := World.block_lt_of_cell? wA _ a0
        clear hTa hbx hba H1 h0 h1 h2 h3 h4 h5
        go_wp2_with fail
        rw [HX.out]
        refine (H2.out _ hTA).mono ?_
        rintro e wB ⟨rfl, hbx⟩
        have b0 := (hbx.cell (p := ⟨wr.heap.size, 0, none⟩) hlA).trans a0
        have b1 := (hbx.cell (p := ⟨wr.heap.size, 1, none⟩) hlA).trans a1
        have b2 := (hbx.cell (p := ⟨wr.heap.size, 2, none⟩) hlA).trans a2
        have b3 := (hbx.cell (p := ⟨wr.heap.size, 3, none⟩) hlA).trans a3
        have b4 := (hbx.cell (p := ⟨wr.heap.size, 4, none⟩) hlA).trans a4
        have b5 := (hbx.cell (p := ⟨wr.heap.size, 5, none⟩) hlA).trans a5
        have hTB := HK.out _ _ hTA hbx
        have hbB := hbA.trans (hbx.mono hbA.size)
        have hlB : wr.heap.size < wB.heap.size := Nat.lt_of_lt_of_le hlA hbx.size
        clear hTA hbx hbA H2 a0 a1 a2 a3 a4 a5 hlA
        go_wp2_with fail
        refine (H3.out _ hTB).mono ?_
        rintro e wC ⟨rfl, hbx⟩
        have c0 := (hbx.cell (p := ⟨wr.heap.size, 0, none⟩) hlB).trans b0
        have c1 := (hbx.cell (p := ⟨wr.heap.size, 1, none⟩) hlB).trans b1
        have c2 := (hbx.cell (p := ⟨wr.heap.size, 2, none⟩) hlB).trans b2
        have c3 := (hbx.cell (p := ⟨wr.heap.size, 3, none⟩) hlB).trans b3
        have c4 := (hbx.cell (p := ⟨wr.heap.size, 4, none⟩) hlB).trans b4
        have c5 := (hbx.cell (p := ⟨wr.heap.size, 5, none⟩) hlB).trans b5
        have hTC := HK.out _ _ hTB hbx
        have hbC := hbB.trans (hbx.mono hbB.size)
        have hlC : wr.heap.size < wC.heap.size := Nat.lt_of_lt_of_le hlB hbx.size
        clear hTB hbx hbB H3 b0 b1 b2 b3 b4 b5 hlB
        go_wp2_with fail
        refine (H4.out _ hTC).mono ?_
        rintro e wD ⟨rfl, hbx⟩
        have d0 := (hbx.cell (p := ⟨wr.heap.size, 0, none⟩) hlC).trans c0
        have d1 := (hbx.cell (p := ⟨wr.heap.size, 1, none⟩) hlC).trans c1
        have d2 := (hbx.cell (p := ⟨wr.heap.size, 2, none⟩) hlC).trans c2
        have d3 := (hbx.cell (p := ⟨wr.heap.size, 3, none⟩) hlC).trans c3
        have d4 := (hbx.cell (p := ⟨wr.heap.size, 4, none⟩) hlC).trans c4
        have d5 := (hbx.cell (p := ⟨wr.heap.size, 5, none⟩) hlC).trans c5
        have hTD := HK.out _ _ hTC hbx
        have hbD := hbC.trans (hbx.mono hbC.size)
        have hlD : wr.heap.size < wD.heap.size := Nat.lt_of_lt_of_le hlC hbx.size
        clear hTC hbx hbC H4 c0 c1 c2 c3 c4 c5 hlC
        go_wp2_with fail
        have hTd := HK.out _ _ hTD (Below.refl _ _).drew
        have hbd := hbD.drew
        go_region_with (go_at_call 12; rw [HSM.out]; refine (H5.out _ hTd).mono ?_; rintro e wE ⟨rfl, hbx⟩)
        have e0 := (hbx.cell (p := ⟨wr.heap.size, 0, none⟩) hlD).trans d0
        have e1 := (hbx.cell (p := ⟨wr.heap.size, 1, none⟩) hlD).trans d1
        have e2 := (hbx.cell (p := ⟨wr.heap.size, 2, none⟩) hlD).trans d2
        have e3 := (hbx.cell (p := ⟨wr.heap.size, 3, none⟩) hlD).trans d3
        have e4 := (hbx.cell (p := ⟨wr.heap.size, 4, none⟩) hlD).trans d4
        have e5 := (hbx.cell (p := ⟨wr.heap.size, 5, none⟩) hlD).trans d5
        have hTE := HK.out _ _ hTd hbx
        have hbE := hbd.trans (hbx.mono hbd.size)
        have hlE : wr.heap.size < wE.heap.size := Nat.lt_of_lt_of_le hlD hbx.size
        clear hTD hTd hbd hbD hbx H5 d0 d1 d2 d3 d4 d5 hlD
        go_wp2_with fail
        have hTe := HK.out _ _ hTE (Below.refl _ _).drew
        have hbe := hbE.drew
        go_region_with (go_at_call 12; rw [HSM.out, HSUB.out]; refine (H6.out _ hTe).mono ?_; rintro e wF ⟨rfl, hbx⟩)
        have hTF := HK.out _ _ hTe hbx
        have hbF := hbe.trans (hbx.mono hbe.size)
        clear hTE hTe hbe hbE hbx H6 e0 e1 e2 e3 e4 e5 hlE
        have hbG := hbr.trans (hbF.mono hbr.size)
        by_cases hn0 : n = 0
        · obtain ⟨rfl, rfl⟩ := HZ.out hn0
          have z1 : ((n : Int) == 0) = true := by simp [hn0]
          have z2 : ((n : Int) != 0) = false := by simp [hn0]
          clear hn0 HZ HNZ
          go_wp2
          go_roundw
          case rel => exact ⟨1, by omega, rfl, hbG, hTF⟩
          case measure => simp [intOf]
        · have z1 : ((n : Int) == 0) = false := by simp; omega
          have z2 : ((n : Int) != 0) = true := by simp; omega
          obtain ⟨k1, k2, k3, k4, k5⟩ := HNZ.out hn0
          clear hn0 HZ HNZ
          go_wp2
          go_roundw
          case rel => exact ⟨1, by omega, rfl, hbG, hTF⟩
          case measure => simp [intOf]
      · rw [show (((1 : Nat) : Int)) = 1 from rfl]
        have h0 : wr.cell? ⟨B, 6, none⟩ = some (.int .i64 64) := (hbr.cell (p := ⟨B, 6, none⟩) (by show B < _; rw [HSZ.out]; omega)).trans C6.out
        have h1 : wr.cell? ⟨B, 7, none⟩ = some (.int .i64 123) := (hbr.cell (p := ⟨B, 7, none⟩) (by show B < _; rw [HSZ.out]; omega)).trans C7.out
        have h2 : wr.cell? ⟨B, 8, none⟩ = some (.int .i64 121) := (hbr.cell (p := ⟨B, 8, none⟩) (by show B < _; rw [HSZ.out]; omega)).trans C8.out
        have h3 : wr.cell? ⟨B, 9, none⟩ = some (.int .i64 122) := (hbr.cell (p := ⟨B, 9, none⟩) (by show B < _; rw [HSZ.out]; omega)).trans C9.out
        have h4 : wr.cell? ⟨B, 10, none⟩ = some (.int .i64 137) := (hbr.cell (p := ⟨B, 10, none⟩) (by show B < _; rw [HSZ.out]; omega)).trans C10.out
        have h5 : wr.cell? ⟨B, 11, none⟩ = some (.int .i64 138) := (hbr.cell (p := ⟨B, 11, none⟩) (by show B < _; rw [HSZ.out]; omega)).trans C11.out
        have hba : Below wr.heap.size wr (wr.alloc (.cells #[.int .i64 64, .int .i64 123, .int .i64 121, .int .i64 122, .int .i64 137, .int .i64 138] 40)) := (Below.refl _ _).alloc (Nat.le_refl _) _
        have hTa := HK.out _ _ hTr hba
        obtain ⟨n, hnl, hn⟩ : ∃ n, n < 18446744073709551616 ∧ bits .and .u64 (a : Int) 18446744073709551615 = ((n : Nat) : Int) := ⟨a % 18446744073709551616, Nat.mod_lt _ (by omega), all_64 a HAB.out.1⟩
        obtain ⟨x, hxl, hx, hpc⟩ : ∃ x, x < 18446744073709551616 ∧ bits .xor .u64 ((n : Nat) : Int) 18446744073709551615 = ((x : Nat) : Int) ∧ pcF n 64 + pcF x 64 = 64 := ⟨n ^^^ 18446744073709551615, flip_64 n hnl⟩
        have hU1 : unVal 123 n = (pcF n 64, true) := un_pc_64 n hnl
        have hU2 : unVal 123 x = (pcF x 64, true) := un_pc_64 x hxl
        have hU3 : unVal 121 n = (lzF n 64, true) := un_lz_64 n hnl
        have hU4 : unVal 122 n = (tzF n 0 64, true) := un_tz_64 n hnl
        have hl1 : binAll 137 n (s % 64) = (turnN n (s % 64) 64, 0, true) := bin_rl_64 n s hnl
        have hl2 : binAll 138 n (64 - s % 64) = (turnN n (s % 64) 64, 0, true) := bin_rr_64 n s hnl
        have H1 := Lib.hid (fun W hW => un_is HD.out W hW (i64 123 (by omega) (by omega)) (by omega) hU1)
        have H2 := Lib.hid (fun W hW => un_is HD.out W hW (i64 123 (by omega) (by omega)) (by omega) hU2)
        have H3 := Lib.hid (fun W hW => un_is HD.out W hW (i64 121 (by omega) (by omega)) (by omega) hU3)
        have H4 := Lib.hid (fun W hW => un_is HD.out W hW (i64 122 (by omega) (by omega)) (by omega) hU4)
        have H5 := Lib.hid (fun W hW => bin_is HD.out W hW (i64 137 (by omega) (by omega)) (by omega) (by omega) hl1)
        have H6 := Lib.hid (fun W hW => bin_is HD.out W hW (i64 138 (by omega) (by omega)) (by omega) (by omega) hl2)
        have hp1 := pcF_le n 64
        have hp2 := pcF_le x 64
        have hp3 := lzF_le n 64
        have hp4 := tzF_le n 0 64
        have HZ := Lib.hid (zero_64 n hnl)
        have HNZ := Lib.hid (fun h => first_64 n hnl h)
        have HN := Lib.hid hn
        have HX := Lib.hid hx
        have hsm : (s : Int).tmod 64 = ((s % 64 : Nat) : Int) := by rw [Int.tmod_eq_emod_of_nonneg (by omega)]; omega
        have hsub : IntKind.u64.wrap (64 - ((s % 64 : Nat) : Int)) = ((64 - s % 64 : Nat) : Int) := by rw [IntKind.wrap_u64]; omega
        have hs1 : s % 64 < 64 := Nat.mod_lt _ (by omega)
        generalize turnN n (s % 64) 64 = L at *
        generalize pcF n 64 = c1 at *
        generalize pcF x 64 = c2 at *
        generalize lzF n 64 = up at *
        generalize tzF n 0 64 = dn at *
        have HSM := Lib.hid hsm
        have HSUB := Lib.hid hsub
        have hcc : ((c1 : Int) + (c2 : Int) != 64) = false := by simp; omega
        clear hn hx hU1 hU2 hU3 hU4 hl1 hl2 hsm hsub hnl hxl hpc
        go_wp2_with fail
        rw [HN.out]
        refine (H1.out _ hTa).mono ?_
        rintro e wA ⟨rfl, hbx⟩
        have a0 : wA.cell? ⟨wr.heap.size, 0, none⟩ = some (.int .i64 64) := (hbx.cell (p := ⟨wr.heap.size, 0, none⟩) (by simp)).trans (by simp)
        have a1 : wA.cell? ⟨wr.heap.size, 1, none⟩ = some (.int .i64 123) := (hbx.cell (p := ⟨wr.heap.size, 1, none⟩) (by simp)).trans (by simp)
        have a2 : wA.cell? ⟨wr.heap.size, 2, none⟩ = some (.int .i64 121) := (hbx.cell (p := ⟨wr.heap.size, 2, none⟩) (by simp)).trans (by simp)
        have a3 : wA.cell? ⟨wr.heap.size, 3, none⟩ = some (.int .i64 122) := (hbx.cell (p := ⟨wr.heap.size, 3, none⟩) (by simp)).trans (by simp)
        have a4 : wA.cell? ⟨wr.heap.size, 4, none⟩ = some (.int .i64 137) := (hbx.cell (p := ⟨wr.heap.size, 4, none⟩) (by simp)).trans (by simp)
        have a5 : wA.cell? ⟨wr.heap.size, 5, none⟩ = some (.int .i64 138) := (hbx.cell (p := ⟨wr.heap.size, 5, none⟩) (by simp)).trans (by simp)
        have hTA := HK.out _ _ hTa hbx
        have hbA := hba.trans (hbx.mono hba.size)
        have hlA : wr.heap.size < wA.heap.size := World.block_lt_of_cell? wA _ a0
        clear hTa hbx hba H1 h0 h1 h2 h3 h4 h5
        go_wp2_with fail
        rw [HX.out]
        refine (H2.out _ hTA).mono ?_
        rintro e wB ⟨rfl, hbx⟩
        have b0 := (hbx.cell (p := ⟨wr.heap.size, 0, none⟩) hlA).trans a0
        have b1 := (hbx.cell (p := ⟨wr.heap.size, 1, none⟩) hlA).trans a1
        have b2 := (hbx.cell (p := ⟨wr.heap.size, 2, none⟩) hlA).trans a2
        have b3 := (hbx.cell (p := ⟨wr.heap.size, 3, none⟩) hlA).trans a3
        have b4 := (hbx.cell (p := ⟨wr.heap.size, 4, none⟩) hlA).trans a4
        have b5 := (hbx.cell (p := ⟨wr.heap.size, 5, none⟩) hlA).trans a5
        have hTB := HK.out _ _ hTA hbx
        have hbB := hbA.trans (hbx.mono hbA.size)
        have hlB : wr.heap.size < wB.heap.size := Nat.lt_of_lt_of_le hlA hbx.size
        clear hTA hbx hbA H2 a0 a1 a2 a3 a4 a5 hlA
        go_wp2_with fail
        refine (H3.out _ hTB).mono ?_
        rintro e wC ⟨rfl, hbx⟩
        have c0 := (hbx.cell (p := ⟨wr.heap.size, 0, none⟩) hlB).trans b0
        have c1 := (hbx.cell (p := ⟨wr.heap.size, 1, none⟩) hlB).trans b1
        have c2 := (hbx.cell (p := ⟨wr.heap.size, 2, none⟩) hlB).trans b2
        have c3 := (hbx.cell (p := ⟨wr.heap.size, 3, none⟩) hlB).trans b3
        have c4 := (hbx.cell (p := ⟨wr.heap.size, 4, none⟩) hlB).trans b4
        have c5 := (hbx.cell (p := ⟨wr.heap.size, 5, none⟩) hlB).trans b5
        have hTC := HK.out _ _ hTB hbx
        have hbC := hbB.trans (hbx.mono hbB.size)
        have hlC : wr.heap.size < wC.heap.size := Nat.lt_of_lt_of_le hlB hbx.size
        clear hTB hbx hbB H3 b0 b1 b2 b3 b4 b5 hlB
        go_wp2_with fail
        refine (H4.out _ hTC).mono ?_
        rintro e wD ⟨rfl, hbx⟩
        have d0 := (hbx.cell (p := ⟨wr.heap.size, 0, none⟩) hlC).trans c0
        have d1 := (hbx.cell (p := ⟨wr.heap.size, 1, none⟩) hlC).trans c1
        have d2 := (hbx.cell (p := ⟨wr.heap.size, 2, none⟩) hlC).trans c2
        have d3 := (hbx.cell (p := ⟨wr.heap.size, 3, none⟩) hlC).trans c3
        have d4 := (hbx.cell (p := ⟨wr.heap.size, 4, none⟩) hlC).trans c4
        have d5 := (hbx.cell (p := ⟨wr.heap.size, 5, none⟩) hlC).trans c5
        have hTD := HK.out _ _ hTC hbx
        have hbD := hbC.trans (hbx.mono hbC.size)
        have hlD : wr.heap.size < wD.heap.size := Nat.lt_of_lt_of_le hlC hbx.size
        clear hTC hbx hbC H4 c0 c1 c2 c3 c4 c5 hlC
        go_wp2_with fail
        have hTd := HK.out _ _ hTD (Below.refl _ _).drew
        have hbd := hbD.drew
        go_region_with (go_at_call 12; rw [HSM.out]; refine (H5.out _ hTd).mono ?_; rintro e wE ⟨rfl, hbx⟩)
        have e0 := (hbx.cell (p := ⟨wr.heap.size, 0, none⟩) hlD).trans d0
        have e1 := (hbx.cell (p := ⟨wr.heap.size, 1, none⟩) hlD).trans d1
        have e2 := (hbx.cell (p := ⟨wr.heap.size, 2, none⟩) hlD).trans d2
        have e3 := (hbx.cell (p := ⟨wr.heap.size, 3, none⟩) hlD).trans d3
        have e4 := (hbx.cell (p := ⟨wr.heap.size, 4, none⟩) hlD).trans d4
        have e5 := (hbx.cell (p := ⟨wr.heap.size, 5, none⟩) hlD).trans d5
        have hTE := HK.out _ _ hTd hbx
        have hbE := hbd.trans (hbx.mono hbd.size)
        have hlE : wr.heap.size < wE.heap.size := Nat.lt_of_lt_of_le hlD hbx.size
        clear hTD hTd hbd hbD hbx H5 d0 d1 d2 d3 d4 d5 hlD
        go_wp2_with fail
        have hTe := HK.out _ _ hTE (Below.refl _ _).drew
        have hbe := hbE.drew
        go_region_with (go_at_call 12; rw [HSM.out, HSUB.out]; refine (H6.out _ hTe).mono ?_; rintro e wF ⟨rfl, hbx⟩)
        have hTF := HK.out _ _ hTe hbx
        have hbF := hbe.trans (hbx.mono hbe.size)
        clear hTE hTe hbe hbE hbx H6 e0 e1 e2 e3 e4 e5 hlE
        have hbG := hbr.trans (hbF.mono hbr.size)
        by_cases hn0 : n = 0
        · obtain ⟨rfl, rfl⟩ := HZ.out hn0
          have z1 : ((n : Int) == 0) = true := by simp [hn0]
          have z2 : ((n : Int) != 0) = false := by simp [hn0]
          clear hn0 HZ HNZ
          go_wp2
          go_roundw
          case rel => exact ⟨2, by omega, rfl, hbG, hTF⟩
          case measure => simp [intOf]
        · have z1 : ((n : Int) == 0) = false := by simp; omega
          have z2 : ((n : Int) != 0) = true := by simp; omega
          obtain ⟨k1, k2, k3, k4, k5⟩ := HNZ.out hn0
          clear hn0 HZ HNZ
          go_wp2
          go_roundw
          case rel => exact ⟨2, by omega, rfl, hbG, hTF⟩
          case measure => simp [intOf]
    · have hlti : ¬ (j : Int) < 2 := by omega
      go_wp2
      go_ret
      exact ⟨rfl, hb2.trans (hbr.mono hb2.size)⟩
end
end Go.Proofs.YtbgcafkdojoilaaDoor.Num
