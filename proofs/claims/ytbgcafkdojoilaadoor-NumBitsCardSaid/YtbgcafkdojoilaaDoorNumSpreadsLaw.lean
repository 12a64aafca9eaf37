/-
  trammellaw03.NumSpreads answers true for every number. Condition: 'Does T', and T holds of the world.
-/
import Derived.Test.YtbgcafkdojoilaaDoorNumLaw
import Derived.Test.YtbgcafkdojoilaaDoorNumWide
namespace Go.Proofs.YtbgcafkdojoilaaDoor.Num
open Go.RowKit

/-- A number of k bits, signed. -/
def sgn (x k : Nat) : Int := if 2 ^ (k - 1) ≤ x then (x : Int) - 2 ^ k else (x : Int)
theorem top_bit (a k : Nat) (hk : 1 ≤ k) : bitN a (k - 1) = 1 ↔ 2 ^ (k - 1) ≤ a % 2 ^ k := by
  obtain ⟨m, rfl⟩ : ∃ m, k = m + 1 := ⟨k - 1, by omega⟩
  have e : a % 2 ^ (m + 1) = a % 2 ^ m + bitN a m * 2 ^ m := by
    unfold bitN
    rw [Nat.pow_succ, Nat.mod_mul, Nat.mul_comm (2 ^ m)]
  have h1 : a % 2 ^ m < 2 ^ m := Nat.mod_lt _ (Nat.pow_pos (by omega))
  have h2 := bitN_le a m
  rw [show m + 1 - 1 = m from rfl, e]
  have h3 : bitN a m = 0 ∨ bitN a m = 1 := by omega
  rcases h3 with h3 | h3
  · rw [h3]; simp; omega
  · rw [h3]; simp
theorem spr_8_32 (a : Nat) : spreadN a 8 32 = if 128 ≤ a % 256 then a % 256 + 4294967040 else a % 256 := by
  have h := spread_is a 8 32 (by omega)
  have ht := top_bit a 8 (by omega)
  rw [show (2 : Nat) ^ 8 = 256 from by decide] at h ht
  rw [show (2 : Nat) ^ 32 = 4294967296 from by decide] at h
  rw [show (2 : Nat) ^ (8 - 1) = 128 from by decide] at ht
  rw [h]
  by_cases hc : 128 ≤ a % 256
  · rw [if_pos hc, if_pos (ht.2 hc)]
  · rw [if_neg hc, if_neg (fun x => hc (ht.1 x))]
theorem spr_low_8_32 (a : Nat) : spreadN a 8 32 % 256 = a % 256 := by rw [spr_8_32]; split <;> omega
theorem spr_again_8_32 (a : Nat) : spreadN (spreadN a 8 32) 8 32 = spreadN a 8 32 := by
  have h := spr_low_8_32 a
  rw [spr_8_32 (spreadN a 8 32), h, spr_8_32]
theorem spr_lt_8_32 (a : Nat) : spreadN a 8 32 < 4294967296 := asm_lt _ 32 (fun _ => bitN_le _ _)
theorem spr_16_32 (a : Nat) : spreadN a 16 32 = if 32768 ≤ a % 65536 then a % 65536 + 4294901760 else a % 65536 := by
  have h := spread_is a 16 32 (by omega)
  have ht := top_bit a 16 (by omega)
  rw [show (2 : Nat) ^ 16 = 65536 from by decide] at h ht
  rw [show (2 : Nat) ^ 32 = 4294967296 from by decide] at h
  rw [show (2 : Nat) ^ (16 - 1) = 32768 from by decide] at ht
  rw [h]
  by_cases hc : 32768 ≤ a % 65536
  · rw [if_pos hc, if_pos (ht.2 hc)]
  · rw [if_neg hc, if_neg (fun x => hc (ht.1 x))]
theorem spr_low_16_32 (a : Nat) : spreadN a 16 32 % 65536 = a % 65536 := by rw [spr_16_32]; split <;> omega
theorem spr_again_16_32 (a : Nat) : spreadN (spreadN a 16 32) 16 32 = spreadN a 16 32 := by
  have h := spr_low_16_32 a
  rw [spr_16_32 (spreadN a 16 32), h, spr_16_32]
theorem spr_lt_16_32 (a : Nat) : spreadN a 16 32 < 4294967296 := asm_lt _ 32 (fun _ => bitN_le _ _)
theorem spr_8_64 (a : Nat) : spreadN a 8 64 = if 128 ≤ a % 256 then a % 256 + 18446744073709551360 else a % 256 := by
  have h := spread_is a 8 64 (by omega)
  have ht := top_bit a 8 (by omega)
  rw [show (2 : Nat) ^ 8 = 256 from by decide] at h ht
  rw [show (2 : Nat) ^ 64 = 18446744073709551616 from by decide] at h
  rw [show (2 : Nat) ^ (8 - 1) = 128 from by decide] at ht
  rw [h]
  by_cases hc : 128 ≤ a % 256
  · rw [if_pos hc, if_pos (ht.2 hc)]
  · rw [if_neg hc, if_neg (fun x => hc (ht.1 x))]
theorem spr_low_8_64 (a : Nat) : spreadN a 8 64 % 256 = a % 256 := by rw [spr_8_64]; split <;> omega
theorem spr_again_8_64 (a : Nat) : spreadN (spreadN a 8 64) 8 64 = spreadN a 8 64 := by
  have h := spr_low_8_64 a
  rw [spr_8_64 (spreadN a 8 64), h, spr_8_64]
theorem spr_lt_8_64 (a : Nat) : spreadN a 8 64 < 18446744073709551616 := asm_lt _ 64 (fun _ => bitN_le _ _)
theorem spr_16_64 (a : Nat) : spreadN a 16 64 = if 32768 ≤ a % 65536 then a % 65536 + 18446744073709486080 else a % 65536 := by
  have h := spread_is a 16 64 (by omega)
  have ht := top_bit a 16 (by omega)
  rw [show (2 : Nat) ^ 16 = 65536 from by decide] at h ht
  rw [show (2 : Nat) ^ 64 = 18446744073709551616 from by decide] at h
  rw [show (2 : Nat) ^ (16 - 1) = 32768 from by decide] at ht
  rw [h]
  by_cases hc : 32768 ≤ a % 65536
  · rw [if_pos hc, if_pos (ht.2 hc)]
  · rw [if_neg hc, if_neg (fun x => hc (ht.1 x))]
theorem spr_low_16_64 (a : Nat) : spreadN a 16 64 % 65536 = a % 65536 := by rw [spr_16_64]; split <;> omega
theorem spr_again_16_64 (a : Nat) : spreadN (spreadN a 16 64) 16 64 = spreadN a 16 64 := by
  have h := spr_low_16_64 a
  rw [spr_16_64 (spreadN a 16 64), h, spr_16_64]
theorem spr_lt_16_64 (a : Nat) : spreadN a 16 64 < 18446744073709551616 := asm_lt _ 64 (fun _ => bitN_le _ _)
theorem spr_32_64 (a : Nat) : spreadN a 32 64 = if 2147483648 ≤ a % 4294967296 then a % 4294967296 + 18446744069414584320 else a % 4294967296 := by
  have h := spread_is a 32 64 (by omega)
  have ht := top_bit a 32 (by omega)
  rw [show (2 : Nat) ^ 32 = 4294967296 from by decide] at h ht
  rw [show (2 : Nat) ^ 64 = 18446744073709551616 from by decide] at h
  rw [show (2 : Nat) ^ (32 - 1) = 2147483648 from by decide] at ht
  rw [h]
  by_cases hc : 2147483648 ≤ a % 4294967296
  · rw [if_pos hc, if_pos (ht.2 hc)]
  · rw [if_neg hc, if_neg (fun x => hc (ht.1 x))]
theorem spr_low_32_64 (a : Nat) : spreadN a 32 64 % 4294967296 = a % 4294967296 := by rw [spr_32_64]; split <;> omega
theorem spr_again_32_64 (a : Nat) : spreadN (spreadN a 32 64) 32 64 = spreadN a 32 64 := by
  have h := spr_low_32_64 a
  rw [spr_32_64 (spreadN a 32 64), h, spr_32_64]
theorem spr_lt_32_64 (a : Nat) : spreadN a 32 64 < 18446744073709551616 := asm_lt _ 64 (fun _ => bitN_le _ _)
theorem un_spread (op : Int) (a k w : Nat) (h2 : unVal op (spreadN a k w) = (spreadN (spreadN a k w) k w, true)) (h3 : spreadN (spreadN a k w) k w = spreadN a k w) : unVal op (spreadN a k w) = (spreadN a k w, true) := by rw [h2, h3]
theorem wrap64_def (x : Int) : wrap64 x = (x + 9223372036854775808) % 18446744073709551616 - 9223372036854775808 := by unfold wrap64; rfl
theorem shl_8 (a : Nat) : wrap64 (IntKind.u64.wrap ((a : Int) * 72057594037927936)) / 72057594037927936 = if 128 ≤ a % 256 then ((a % 256 : Nat) : Int) - 256 else ((a % 256 : Nat) : Int) := by
  have e : IntKind.u64.wrap ((a : Int) * 72057594037927936) = ((a % 256 : Nat) : Int) * 72057594037927936 := by rw [IntKind.wrap_u64]; omega
  rw [e]
  have h : a % 256 < 256 := Nat.mod_lt _ (by omega)
  generalize a % 256 = r at *
  rw [wrap64_def]
  split <;> omega
theorem shl_16 (a : Nat) : wrap64 (IntKind.u64.wrap ((a : Int) * 281474976710656)) / 281474976710656 = if 32768 ≤ a % 65536 then ((a % 65536 : Nat) : Int) - 65536 else ((a % 65536 : Nat) : Int) := by
  have e : IntKind.u64.wrap ((a : Int) * 281474976710656) = ((a % 65536 : Nat) : Int) * 281474976710656 := by rw [IntKind.wrap_u64]; omega
  rw [e]
  have h : a % 65536 < 65536 := Nat.mod_lt _ (by omega)
  generalize a % 65536 = r at *
  rw [wrap64_def]
  split <;> omega
theorem shl_32 (a : Nat) : wrap64 (IntKind.u64.wrap ((a : Int) * 4294967296)) / 4294967296 = if 2147483648 ≤ a % 4294967296 then ((a % 4294967296 : Nat) : Int) - 4294967296 else ((a % 4294967296 : Nat) : Int) := by
  have e : IntKind.u64.wrap ((a : Int) * 4294967296) = ((a % 4294967296 : Nat) : Int) * 4294967296 := by rw [IntKind.wrap_u64]; omega
  rw [e]
  have h : a % 4294967296 < 4294967296 := Nat.mod_lt _ (by omega)
  generalize a % 4294967296 = r at *
  rw [wrap64_def]
  split <;> omega
theorem u64_own (n : Nat) (h : n < 18446744073709551616) : IntKind.u64.wrap (n : Int) = (n : Int) := by rw [IntKind.wrap_u64]; omega
theorem and_mask (a k m : Nat) (ha : a < 18446744073709551616) (hm : 2 ^ k - 1 = m) (hm2 : m < 18446744073709551616) : bits .and .u64 (a : Int) (m : Int) = ((a % 2 ^ k : Nat) : Int) := by
  subst hm
  rw [u64_and_nat a (2 ^ k - 1) ha hm2, Nat.and_two_pow_sub_one_eq_mod]
theorem spr_facts_8_32 (a : Nat) (ha : a < 18446744073709551616) : (bits .and .u64 ((spreadN a 8 32 : Nat) : Int) 255 != bits .and .u64 (a : Int) 255) = false ∧ (wrap64 (IntKind.u64.wrap (((spreadN a 8 32 : Nat) : Int) * 4294967296)) / 4294967296 != wrap64 (IntKind.u64.wrap ((a : Int) * 72057594037927936)) / 72057594037927936) = false := by
  have hlt := spr_lt_8_32 a
  have hlow := spr_low_8_32 a
  have hv := spr_8_32 a
  constructor
  · rw [show ((255 : Int)) = ((255 : Nat) : Int) from rfl, and_mask _ 8 255 (by omega) (by decide) (by omega), and_mask a 8 255 ha (by decide) (by omega), show (2 : Nat) ^ 8 = 256 from by decide, hlow]
    simp
  · rw [shl_8 a]
    have h : a % 256 < 256 := Nat.mod_lt _ (by omega)
    rw [shl_32 (spreadN a 8 32), Nat.mod_eq_of_lt hlt, hv]
    generalize a % 256 = r at *
    simp only [bne_eq_false_iff_eq]
    repeat' split
    all_goals omega
theorem spr_facts_16_32 (a : Nat) (ha : a < 18446744073709551616) : (bits .and .u64 ((spreadN a 16 32 : Nat) : Int) 65535 != bits .and .u64 (a : Int) 65535) = false ∧ (wrap64 (IntKind.u64.wrap (((spreadN a 16 32 : Nat) : Int) * 4294967296)) / 4294967296 != wrap64 (IntKind.u64.wrap ((a : Int) * 281474976710656)) / 281474976710656) = false := by
  have hlt := spr_lt_16_32 a
  have hlow := spr_low_16_32 a
  have hv := spr_16_32 a
  constructor
  · rw [show ((65535 : Int)) = ((65535 : Nat) : Int) from rfl, and_mask _ 16 65535 (by omega) (by decide) (by omega), and_mask a 16 65535 ha (by decide) (by omega), show (2 : Nat) ^ 16 = 65536 from by decide, hlow]
    simp
  · rw [shl_16 a]
    have h : a % 65536 < 65536 := Nat.mod_lt _ (by omega)
    rw [shl_32 (spreadN a 16 32), Nat.mod_eq_of_lt hlt, hv]
    generalize a % 65536 = r at *
    simp only [bne_eq_false_iff_eq]
    repeat' split
    all_goals omega
theorem spr_facts_8_64 (a : Nat) (ha : a < 18446744073709551616) : (bits .and .u64 ((spreadN a 8 64 : Nat) : Int) 255 != bits .and .u64 (a : Int) 255) = false ∧ (wrap64 (IntKind.u64.wrap ((spreadN a 8 64 : Nat) : Int)) != wrap64 (IntKind.u64.wrap ((a : Int) * 72057594037927936)) / 72057594037927936) = false := by
  have hlt := spr_lt_8_64 a
  have hlow := spr_low_8_64 a
  have hv := spr_8_64 a
  constructor
  · rw [show ((255 : Int)) = ((255 : Nat) : Int) from rfl, and_mask _ 8 255 (by omega) (by decide) (by omega), and_mask a 8 255 ha (by decide) (by omega), show (2 : Nat) ^ 8 = 256 from by decide, hlow]
    simp
  · rw [shl_8 a]
    have h : a % 256 < 256 := Nat.mod_lt _ (by omega)
    rw [u64_own _ hlt, hv]
    generalize a % 256 = r at *
    simp only [bne_eq_false_iff_eq]
    rw [wrap64_def]
    repeat' split
    all_goals omega
theorem spr_facts_16_64 (a : Nat) (ha : a < 18446744073709551616) : (bits .and .u64 ((spreadN a 16 64 : Nat) : Int) 65535 != bits .and .u64 (a : Int) 65535) = false ∧ (wrap64 (IntKind.u64.wrap ((spreadN a 16 64 : Nat) : Int)) != wrap64 (IntKind.u64.wrap ((a : Int) * 281474976710656)) / 281474976710656) = false := by
  have hlt := spr_lt_16_64 a
  have hlow := spr_low_16_64 a
  have hv := spr_16_64 a
  constructor
  · rw [show ((65535 : Int)) = ((65535 : Nat) : Int) from rfl, and_mask _ 16 65535 (by omega) (by decide) (by omega), and_mask a 16 65535 ha (by decide) (by omega), show (2 : Nat) ^ 16 = 65536 from by decide, hlow]
    simp
  · rw [shl_16 a]
    have h : a % 65536 < 65536 := Nat.mod_lt _ (by omega)
    rw [u64_own _ hlt, hv]
    generalize a % 65536 = r at *
    simp only [bne_eq_false_iff_eq]
    rw [wrap64_def]
    repeat' split
    all_goals omega
theorem spr_facts_32_64 (a : Nat) (ha : a < 18446744073709551616) : (bits .and .u64 ((spreadN a 32 64 : Nat) : Int) 4294967295 != bits .and .u64 (a : Int) 4294967295) = false ∧ (wrap64 (IntKind.u64.wrap ((spreadN a 32 64 : Nat) : Int)) != wrap64 (IntKind.u64.wrap ((a : Int) * 4294967296)) / 4294967296) = false := by
  have hlt := spr_lt_32_64 a
  have hlow := spr_low_32_64 a
  have hv := spr_32_64 a
  constructor
  · rw [show ((4294967295 : Int)) = ((4294967295 : Nat) : Int) from rfl, and_mask _ 32 4294967295 (by omega) (by decide) (by omega), and_mask a 32 4294967295 ha (by decide) (by omega), show (2 : Nat) ^ 32 = 4294967296 from by decide, hlow]
    simp
  · rw [shl_32 a]
    have h : a % 4294967296 < 4294967296 := Nat.mod_lt _ (by omega)
    rw [u64_own _ hlt, hv]
    generalize a % 4294967296 = r at *
    simp only [bne_eq_false_iff_eq]
    rw [wrap64_def]
    repeat' split
    all_goals omega
section
variable {T : World → Prop} (D : Does T)
include D
set_option maxHeartbeats 4000000 in
set_option maxRecDepth 100000 in
theorem spreads_law (a : Nat) (w : World) (hT : T w) (ha : a < 18446744073709551616) :
    Calls Tryd.prog 8 #[.int .u64 (a : Int)] w fun e w' => e = .returned (.bool true) ∧ Below w.heap.size w w' := by
  have HA := Lib.hid (awake_any D w hT)
  have HK := Lib.hid D.keep
  have HD := Lib.hid D
  have HAB := Lib.hid ha
  clear D ha
  go_enter Tryd.func8, Tryd.ntmps8
  go_wp2_with (go_at_call 9; refine HA.out.mono ?_; rintro e w1 ⟨rfl, hb1⟩)
  have hT1 := HK.out _ _ hT hb1
  have hal : Below w1.heap.size w1 (w1.alloc (.cells #[.int .i64 192, .int .i64 8, .int .i64 32, .int .i64 193, .int .i64 16, .int .i64 32, .int .i64 194, .int .i64 8, .int .i64 64, .int .i64 195, .int .i64 16, .int .i64 64, .int .i64 196, .int .i64 32, .int .i64 64, .int .i64 172, .int .i64 32, .int .i64 64] 42)) := (Below.refl _ _).alloc (Nat.le_refl _) _
  have C0 := Lib.hid (show (w1.alloc (.cells #[.int .i64 192, .int .i64 8, .int .i64 32, .int .i64 193, .int .i64 16, .int .i64 32, .int .i64 194, .int .i64 8, .int .i64 64, .int .i64 195, .int .i64 16, .int .i64 64, .int .i64 196, .int .i64 32, .int .i64 64, .int .i64 172, .int .i64 32, .int .i64 64] 42)).cell? ⟨w1.heap.size, 0, none⟩ = some (.int .i64 192) from by simp)
  have C1 := Lib.hid (show (w1.alloc (.cells #[.int .i64 192, .int .i64 8, .int .i64 32, .int .i64 193, .int .i64 16, .int .i64 32, .int .i64 194, .int .i64 8, .int .i64 64, .int .i64 195, .int .i64 16, .int .i64 64, .int .i64 196, .int .i64 32, .int .i64 64, .int .i64 172, .int .i64 32, .int .i64 64] 42)).cell? ⟨w1.heap.size, 1, none⟩ = some (.int .i64 8) from by simp)
  have C2 := Lib.hid (show (w1.alloc (.cells #[.int .i64 192, .int .i64 8, .int .i64 32, .int .i64 193, .int .i64 16, .int .i64 32, .int .i64 194, .int .i64 8, .int .i64 64, .int .i64 195, .int .i64 16, .int .i64 64, .int .i64 196, .int .i64 32, .int .i64 64, .int .i64 172, .int .i64 32, .int .i64 64] 42)).cell? ⟨w1.heap.size, 2, none⟩ = some (.int .i64 32) from by simp)
  have C3 := Lib.hid (show (w1.alloc (.cells #[.int .i64 192, .int .i64 8, .int .i64 32, .int .i64 193, .int .i64 16, .int .i64 32, .int .i64 194, .int .i64 8, .int .i64 64, .int .i64 195, .int .i64 16, .int .i64 64, .int .i64 196, .int .i64 32, .int .i64 64, .int .i64 172, .int .i64 32, .int .i64 64] 42)).cell? ⟨w1.heap.size, 3, none⟩ = some (.int .i64 193) from by simp)
  have C4 := Lib.hid (show (w1.alloc (.cells #[.int .i64 192, .int .i64 8, .int .i64 32, .int .i64 193, .int .i64 16, .int .i64 32, .int .i64 194, .int .i64 8, .int .i64 64, .int .i64 195, .int .i64 16, .int .i64 64, .int .i64 196, .int .i64 32, .int .i64 64, .int .i64 172, .int .i64 32, .int .i64 64] 42)).cell? ⟨w1.heap.size, 4, none⟩ = some (.int .i64 16) from by simp)
  have C5 := Lib.hid (show (w1.alloc (.cells #[.int .i64 192, .int .i64 8, .int .i64 32, .int .i64 193, .int .i64 16, .int .i64 32, .int .i64 194, .int .i64 8, .int .i64 64, .int .i64 195, .int .i64 16, .int .i64 64, .int .i64 196, .int .i64 32, .int .i64 64, .int .i64 172, .int .i64 32, .int .i64 64] 42)).cell? ⟨w1.heap.size, 5, none⟩ = some (.int .i64 32) from by simp)
  have C6 := Lib.hid (show (w1.alloc (.cells #[.int .i64 192, .int .i64 8, .int .i64 32, .int .i64 193, .int .i64 16, .int .i64 32, .int .i64 194, .int .i64 8, .int .i64 64, .int .i64 195, .int .i64 16, .int .i64 64, .int .i64 196, .int .i64 32, .int .i64 64, .int .i64 172, .int .i64 32, .int .i64 64] 42)).cell? ⟨w1.heap.size, 6, none⟩ = some (.int .i64 194) from by simp)
  have C7 := Lib.hid (show (w1.alloc (.cells #[.int .i64 192, .int .i64 8, .int .i64 32, .int .i64 193, .int .i64 16, .int .i64 32, .int .i64 194, .int .i64 8, .int .i64 64, .int .i64 195, .int .i64 16, .int .i64 64, .int .i64 196, .int .i64 32, .int .i64 64, .int .i64 172, .int .i64 32, .int .i64 64] 42)).cell? ⟨w1.heap.size, 7, none⟩ = some (.int .i64 8) from by simp)
  have C8 := Lib.hid (show (w1.alloc (.cells #[.int .i64 192, .int .i64 8, .int .i64 32, .int .i64 193, .int .i64 16, .int .i64 32, .int .i64 194, .int .i64 8, .int .i64 64, .int .i64 195, .int .i64 16, .int .i64 64, .int .i64 196, .int .i64 32, .int .i64 64, .int .i64 172, .int .i64 32, .int .i64 64] 42)).cell? ⟨w1.heap.size, 8, none⟩ = some (.int .i64 64) from by simp)
  have C9 := Lib.hid (show (w1.alloc (.cells #[.int .i64 192, .int .i64 8, .int .i64 32, .int .i64 193, .int .i64 16, .int .i64 32, .int .i64 194, .int .i64 8, .int .i64 64, .int .i64 195, .int .i64 16, .int .i64 64, .int .i64 196, .int .i64 32, .int .i64 64, .int .i64 172, .int .i64 32, .int .i64 64] 42)).cell? ⟨w1.heap.size, 9, none⟩ = some (.int .i64 195) from by simp)
  have C10 := Lib.hid (show (w1.alloc (.cells #[.int .i64 192, .int .i64 8, .int .i64 32, .int .i64 193, .int .i64 16, .int .i64 32, .int .i64 194, .int .i64 8, .int .i64 64, .int .i64 195, .int .i64 16, .int .i64 64, .int .i64 196, .int .i64 32, .int .i64 64, .int .i64 172, .int .i64 32, .int .i64 64] 42)).cell? ⟨w1.heap.size, 10, none⟩ = some (.int .i64 16) from by simp)
  have C11 := Lib.hid (show (w1.alloc (.cells #[.int .i64 192, .int .i64 8, .int .i64 32, .int .i64 193, .int .i64 16, .int .i64 32, .int .i64 194, .int .i64 8, .int .i64 64, .int .i64 195, .int .i64 16, .int .i64 64, .int .i64 196, .int .i64 32, .int .i64 64, .int .i64 172, .int .i64 32, .int .i64 64] 42)).cell? ⟨w1.heap.size, 11, none⟩ = some (.int .i64 64) from by simp)
  have C12 := Lib.hid (show (w1.alloc (.cells #[.int .i64 192, .int .i64 8, .int .i64 32, .int .i64 193, .int .i64 16, .int .i64 32, .int .i64 194, .int .i64 8, .int .i64 64, .int .i64 195, .int .i64 16, .int .i64 64, .int .i64 196, .int .i64 32, .int .i64 64, .int .i64 172, .int .i64 32, .int .i64 64] 42)).cell? ⟨w1.heap.size, 12, none⟩ = some (.int .i64 196) from by simp)
  have C13 := Lib.hid (show (w1.alloc (.cells #[.int .i64 192, .int .i64 8, .int .i64 32, .int .i64 193, .int .i64 16, .int .i64 32, .int .i64 194, .int .i64 8, .int .i64 64, .int .i64 195, .int .i64 16, .int .i64 64, .int .i64 196, .int .i64 32, .int .i64 64, .int .i64 172, .int .i64 32, .int .i64 64] 42)).cell? ⟨w1.heap.size, 13, none⟩ = some (.int .i64 32) from by simp)
  have C14 := Lib.hid (show (w1.alloc (.cells #[.int .i64 192, .int .i64 8, .int .i64 32, .int .i64 193, .int .i64 16, .int .i64 32, .int .i64 194, .int .i64 8, .int .i64 64, .int .i64 195, .int .i64 16, .int .i64 64, .int .i64 196, .int .i64 32, .int .i64 64, .int .i64 172, .int .i64 32, .int .i64 64] 42)).cell? ⟨w1.heap.size, 14, none⟩ = some (.int .i64 64) from by simp)
  have C15 := Lib.hid (show (w1.alloc (.cells #[.int .i64 192, .int .i64 8, .int .i64 32, .int .i64 193, .int .i64 16, .int .i64 32, .int .i64 194, .int .i64 8, .int .i64 64, .int .i64 195, .int .i64 16, .int .i64 64, .int .i64 196, .int .i64 32, .int .i64 64, .int .i64 172, .int .i64 32, .int .i64 64] 42)).cell? ⟨w1.heap.size, 15, none⟩ = some (.int .i64 172) from by simp)
  have C16 := Lib.hid (show (w1.alloc (.cells #[.int .i64 192, .int .i64 8, .int .i64 32, .int .i64 193, .int .i64 16, .int .i64 32, .int .i64 194, .int .i64 8, .int .i64 64, .int .i64 195, .int .i64 16, .int .i64 64, .int .i64 196, .int .i64 32, .int .i64 64, .int .i64 172, .int .i64 32, .int .i64 64] 42)).cell? ⟨w1.heap.size, 16, none⟩ = some (.int .i64 32) from by simp)
  have C17 := Lib.hid (show (w1.alloc (.cells #[.int .i64 192, .int .i64 8, .int .i64 32, .int .i64 193, .int .i64 16, .int .i64 32, .int .i64 194, .int .i64 8, .int .i64 64, .int .i64 195, .int .i64 16, .int .i64 64, .int .i64 196, .int .i64 32, .int .i64 64, .int .i64 172, .int .i64 32, .int .i64 64] 42)).cell? ⟨w1.heap.size, 17, none⟩ = some (.int .i64 64) from by simp)
  have hT2 := HK.out _ _ hT1 hal
  have hb2 := hb1.trans (hal.mono hb1.size)
  have hsz : (w1.alloc (.cells #[.int .i64 192, .int .i64 8, .int .i64 32, .int .i64 193, .int .i64 16, .int .i64 32, .int .i64 194, .int .i64 8, .int .i64 64, .int .i64 195, .int .i64 16, .int .i64 64, .int .i64 196, .int .i64 32, .int .i64 64, .int .i64 172, .int .i64 32, .int .i64 64] 42)).heap.size = w1.heap.size + 1 := by simp
  have HSZ := Lib.hid hsz
  clear hal hb1 hT1 hsz HA
  generalize w1.alloc _ = W0 at *
  generalize w1.heap.size = B at *
  go_loopw [22] (fun i wr => ∃ j : Nat, j ≤ 6 ∧ i = .int .i64 (j : Int) ∧ Below W0.heap.size W0 wr ∧ T wr) (fun i _ => 6 - (intOf i).toNat)
  case atStart => exact ⟨0, by omega, rfl, Below.refl _ _, hT2⟩
  case round =>
    obtain ⟨j, hj, rfl, hbr, hTr⟩ := hrel
    clear hT2
    by_cases hlt : j < 6
    · have hjj : j = 0 ∨ j = 1 ∨ j = 2 ∨ j = 3 ∨ j = 4 ∨ j = 5 := by omega
      clear hlt hj
      rcases hjj with rfl | rfl | rfl | rfl | rfl | rfl
      · rw [show (((0 : Nat) : Int)) = 0 from rfl]
        have h0 : wr.cell? ⟨B, 0, none⟩ = some (.int .i64 192) := (hbr.cell (p := ⟨B, 0, none⟩) (by show B < _; rw [HSZ.out]; omega)).trans C0.out
        have h1 : wr.cell? ⟨B, 1, none⟩ = some (.int .i64 8) := (hbr.cell (p := ⟨B, 1, none⟩) (by show B < _; rw [HSZ.out]; omega)).trans C1.out
        have h2 : wr.cell? ⟨B, 2, none⟩ = some (.int .i64 32) := (hbr.cell (p := ⟨B, 2, none⟩) (by show B < _; rw [HSZ.out]; omega)).trans C2.out
        have HU := Lib.hid (fun W hW => un_is HD.out W hW (⟨by omega, by omega⟩ : I64 192) HAB.out (show unVal 192 a = (spreadN a 8 32, true) from rfl))
        have HV := Lib.hid (fun W hW => un_is HD.out W hW (⟨by omega, by omega⟩ : I64 192) (by have := spr_lt_8_32 a; omega) (show unVal 192 (spreadN a 8 32) = (spreadN a 8 32, true) from un_spread 192 a 8 32 rfl (spr_again_8_32 a)))
        have HF := Lib.hid (spr_facts_8_32 a HAB.out)
        have HLT := Lib.hid (spr_lt_8_32 a)
        generalize spreadN a 8 32 = n at *
        go_wp2_with fail
        have hba : Below wr.heap.size wr (wr.alloc (.cells #[.int .i64 192, .int .i64 8, .int .i64 32] 42)) := (Below.refl _ _).alloc (Nat.le_refl _) _
        have hTa := HK.out _ _ hTr hba
        refine (HU.out _ hTa).mono ?_
        rintro e wA ⟨rfl, hbA⟩
        have hc0 : wA.cell? ⟨wr.heap.size, 0, none⟩ = some (.int .i64 192) := (hbA.cell (p := ⟨wr.heap.size, 0, none⟩) (by simp)).trans (by simp)
        have hc1 : wA.cell? ⟨wr.heap.size, 1, none⟩ = some (.int .i64 8) := (hbA.cell (p := ⟨wr.heap.size, 1, none⟩) (by simp)).trans (by simp)
        have hc2 : wA.cell? ⟨wr.heap.size, 2, none⟩ = some (.int .i64 32) := (hbA.cell (p := ⟨wr.heap.size, 2, none⟩) (by simp)).trans (by simp)
        have hTA := HK.out _ _ hTa hbA
        have hbB := hba.trans (hbA.mono hba.size)
        clear hTa hba hbA HU h0 h1 h2
        obtain ⟨f1, f2⟩ := HF.out
        go_wp2_with fail
        go_quiet (fail)
        go_wp2_with fail
        have hTD := HK.out _ _ hTA (below_drewN (Below.refl _ _) nq)
        have hbD := below_drewN hbB nq
        refine (HV.out _ hTD).mono ?_
        rintro e wC ⟨rfl, hbC⟩
        have hTC := HK.out _ _ hTD hbC
        have hbE := hbr.trans ((hbD.trans (hbC.mono hbD.size)).mono hbr.size)
        clear hTA hTD hbB hbC hbD HV hc0 hc1 hc2 f1
        go_wp2
        go_roundw
        case rel => exact ⟨1, by omega, rfl, hbE, hTC⟩
        case measure => simp [intOf]
      · rw [show (((1 : Nat) : Int)) = 1 from rfl]
        have h0 : wr.cell? ⟨B, 3, none⟩ = some (.int .i64 193) := (hbr.cell (p := ⟨B, 3, none⟩) (by show B < _; rw [HSZ.out]; omega)).trans C3.out
        have h1 : wr.cell? ⟨B, 4, none⟩ = some (.int .i64 16) := (hbr.cell (p := ⟨B, 4, none⟩) (by show B < _; rw [HSZ.out]; omega)).trans C4.out
        have h2 : wr.cell? ⟨B, 5, none⟩ = some (.int .i64 32) := (hbr.cell (p := ⟨B, 5, none⟩) (by show B < _; rw [HSZ.out]; omega)).trans C5.out
        have HU := Lib.hid (fun W hW => un_is HD.out W hW (⟨by omega, by omega⟩ : I64 193) HAB.out (show unVal 193 a = (spreadN a 16 32, true) from rfl))
        have HV := Lib.hid (fun W hW => un_is HD.out W hW (⟨by omega, by omega⟩ : I64 193) (by have := spr_lt_16_32 a; omega) (show unVal 193 (spreadN a 16 32) = (spreadN a 16 32, true) from un_spread 193 a 16 32 rfl (spr_again_16_32 a)))
        have HF := Lib.hid (spr_facts_16_32 a HAB.out)
        have HLT := Lib.hid (spr_lt_16_32 a)
        generalize spreadN a 16 32 = n at *
        go_wp2_with fail
        have hba : Below wr.heap.size wr (wr.alloc (.cells #[.int .i64 193, .int .i64 16, .int .i64 32] 42)) := (Below.refl _ _).alloc (Nat.le_refl _) _
        have hTa := HK.out _ _ hTr hba
        refine (HU.out _ hTa).mono ?_
        rintro e wA ⟨rfl, hbA⟩
        have hc0 : wA.cell? ⟨wr.heap.size, 0, none⟩ = some (.int .i64 193) := (hbA.cell (p := ⟨wr.heap.size, 0, none⟩) (by simp)).trans (by simp)
        have hc1 : wA.cell? ⟨wr.heap.size, 1, none⟩ = some (.int .i64 16) := (hbA.cell (p := ⟨wr.heap.size, 1, none⟩) (by simp)).trans (by simp)
        have hc2 : wA.cell? ⟨wr.heap.size, 2, none⟩ = some (.int .i64 32) := (hbA.cell (p := ⟨wr.heap.size, 2, none⟩) (by simp)).trans (by simp)
        have hTA := HK.out _ _ hTa hbA
        have hbB := hba.trans (hbA.mono hba.size)
        clear hTa hba hbA HU h0 h1 h2
        obtain ⟨f1, f2⟩ := HF.out
        go_wp2_with fail
        go_quiet (fail)
        go_wp2_with fail
        have hTD := HK.out _ _ hTA (below_drewN (Below.refl _ _) nq)
        have hbD := below_drewN hbB nq
        refine (HV.out _ hTD).mono ?_
        rintro e wC ⟨rfl, hbC⟩
        have hTC := HK.out _ _ hTD hbC
        have hbE := hbr.trans ((hbD.trans (hbC.mono hbD.size)).mono hbr.size)
        clear hTA hTD hbB hbC hbD HV hc0 hc1 hc2 f1
        go_wp2
        go_roundw
        case rel => exact ⟨2, by omega, rfl, hbE, hTC⟩
        case measure => simp [intOf]
      · rw [show (((2 : Nat) : Int)) = 2 from rfl]
        have h0 : wr.cell? ⟨B, 6, none⟩ = some (.int .i64 194) := (hbr.cell (p := ⟨B, 6, none⟩) (by show B < _; rw [HSZ.out]; omega)).trans C6.out
        have h1 : wr.cell? ⟨B, 7, none⟩ = some (.int .i64 8) := (hbr.cell (p := ⟨B, 7, none⟩) (by show B < _; rw [HSZ.out]; omega)).trans C7.out
        have h2 : wr.cell? ⟨B, 8, none⟩ = some (.int .i64 64) := (hbr.cell (p := ⟨B, 8, none⟩) (by show B < _; rw [HSZ.out]; omega)).trans C8.out
        have HU := Lib.hid (fun W hW => un_is HD.out W hW (⟨by omega, by omega⟩ : I64 194) HAB.out (show unVal 194 a = (spreadN a 8 64, true) from rfl))
        have HV := Lib.hid (fun W hW => un_is HD.out W hW (⟨by omega, by omega⟩ : I64 194) (by have := spr_lt_8_64 a; omega) (show unVal 194 (spreadN a 8 64) = (spreadN a 8 64, true) from un_spread 194 a 8 64 rfl (spr_again_8_64 a)))
        have HF := Lib.hid (spr_facts_8_64 a HAB.out)
        have HLT := Lib.hid (spr_lt_8_64 a)
        generalize spreadN a 8 64 = n at *
        go_wp2_with fail
        have hba : Below wr.heap.size wr (wr.alloc (.cells #[.int .i64 194, .int .i64 8, .int .i64 64] 42)) := (Below.refl _ _).alloc (Nat.le_refl _) _
        have hTa := HK.out _ _ hTr hba
        refine (HU.out _ hTa).mono ?_
        rintro e wA ⟨rfl, hbA⟩
        have hc0 : wA.cell? ⟨wr.heap.size, 0, none⟩ = some (.int .i64 194) := (hbA.cell (p := ⟨wr.heap.size, 0, none⟩) (by simp)).trans (by simp)
        have hc1 : wA.cell? ⟨wr.heap.size, 1, none⟩ = some (.int .i64 8) := (hbA.cell (p := ⟨wr.heap.size, 1, none⟩) (by simp)).trans (by simp)
        have hc2 : wA.cell? ⟨wr.heap.size, 2, none⟩ = some (.int .i64 64) := (hbA.cell (p := ⟨wr.heap.size, 2, none⟩) (by simp)).trans (by simp)
        have hTA := HK.out _ _ hTa hbA
        have hbB := hba.trans (hbA.mono hba.size)
        clear hTa hba hbA HU h0 h1 h2
        obtain ⟨f1, f2⟩ := HF.out
        go_wp2_with fail
        go_quiet (fail)
        go_wp2_with fail
        have hTD := HK.out _ _ hTA (below_drewN (Below.refl _ _) nq)
        have hbD := below_drewN hbB nq
        refine (HV.out _ hTD).mono ?_
        rintro e wC ⟨rfl, hbC⟩
        have hTC := HK.out _ _ hTD hbC
        have hbE := hbr.trans ((hbD.trans (hbC.mono hbD.size)).mono hbr.size)
        clear hTA hTD hbB hbC hbD HV hc0 hc1 hc2 f1
        go_wp2
        go_roundw
        case rel => exact ⟨3, by omega, rfl, hbE, hTC⟩
        case measure => simp [intOf]
      · rw [show (((3 : Nat) : Int)) = 3 from rfl]
        have h0 : wr.cell? ⟨B, 9, none⟩ = some (.int .i64 195) := (hbr.cell (p := ⟨B, 9, none⟩) (by show B < _; rw [HSZ.out]; omega)).trans C9.out
        have h1 : wr.cell? ⟨B, 10, none⟩ = some (.int .i64 16) := (hbr.cell (p := ⟨B, 10, none⟩) (by show B < _; rw [HSZ.out]; omega)).trans C10.out
        have h2 : wr.cell? ⟨B, 11, none⟩ = some (.int .i64 64) := (hbr.cell (p := ⟨B, 11, none⟩) (by show B < _; rw [HSZ.out]; omega)).trans C11.out
        have HU := Lib.hid (fun W hW => un_is HD.out W hW (⟨by omega, by omega⟩ : I64 195) HAB.out (show unVal 195 a = (spreadN a 16 64, true) from rfl))
        have HV := Lib.hid (fun W hW => un_is HD.out W hW (⟨by omega, by omega⟩ : I64 195) (by have := spr_lt_16_64 a; omega) (show unVal 195 (spreadN a 16 64) = (spreadN a 16 64, true) from un_spread 195 a 16 64 rfl (spr_again_16_64 a)))
        have HF := Lib.hid (spr_facts_16_64 a HAB.out)
        have HLT := Lib.hid (spr_lt_16_64 a)
        generalize spreadN a 16 64 = n at *
        go_wp2_with fail
        have hba : Below wr.heap.size wr (wr.alloc (.cells #[.int .i64 195, .int .i64 16, .int .i64 64] 42)) := (Below.refl _ _).alloc (Nat.le_refl _) _
        have hTa := HK.out _ _ hTr hba
        refine (HU.out _ hTa).mono ?_
        rintro e wA ⟨rfl, hbA⟩
        have hc0 : wA.cell? ⟨wr.heap.size, 0, none⟩ = some (.int .i64 195) := (hbA.cell (p := ⟨wr.heap.size, 0, none⟩) (by simp)).trans (by simp)
        have hc1 : wA.cell? ⟨wr.heap.size, 1, none⟩ = some (.int .i64 16) := (hbA.cell (p := ⟨wr.heap.size, 1, none⟩) (by simp)).trans (by simp)
        have hc2 : wA.cell? ⟨wr.heap.size, 2, none⟩ = some (.int .i64 64) := (hbA.cell (p := ⟨wr.heap.size, 2, none⟩) (by simp)).trans (by simp)
        have hTA := HK.out _ _ hTa hbA
        have hbB := hba.trans (hbA.mono hba.size)
        clear hTa hba hbA HU h0 h1 h2
        obtain ⟨f1, f2⟩ := HF.out
        go_wp2_with fail
        go_quiet (fail)
        go_wp2_with fail
        have hTD := HK.out _ _ hTA (below_drewN (Below.refl _ _) nq)
        have hbD := below_drewN hbB nq
        refine (HV.out _ hTD).mono ?_
        rintro e wC ⟨rfl, hbC⟩
        have hTC := HK.out _ _ hTD hbC
        have hbE := hbr.trans ((hbD.trans (hbC.mono hbD.size)).mono hbr.size)
        clear hTA hTD hbB hbC hbD HV hc0 hc1 hc2 f1
        go_wp2
        go_roundw
        case rel => exact ⟨4, by omega, rfl, hbE, hTC⟩
        case measure => simp [intOf]
      · rw [show (((4 : Nat) : Int)) = 4 from rfl]
        have h0 : wr.cell? ⟨B, 12, none⟩ = some (.int .i64 196) := (hbr.cell (p := ⟨B, 12, none⟩) (by show B < _; rw [HSZ.out]; omega)).trans C12.out
        have h1 : wr.cell? ⟨B, 13, none⟩ = some (.int .i64 32) := (hbr.cell (p := ⟨B, 13, none⟩) (by show B < _; rw [HSZ.out]; omega)).trans C13.out
        have h2 : wr.cell? ⟨B, 14, none⟩ = some (.int .i64 64) := (hbr.cell (p := ⟨B, 14, none⟩) (by show B < _; rw [HSZ.out]; omega)).trans C14.out
        have HU := Lib.hid (fun W hW => un_is HD.out W hW (⟨by omega, by omega⟩ : I64 196) HAB.out (show unVal 196 a = (spreadN a 32 64, true) from rfl))
        have HV := Lib.hid (fun W hW => un_is HD.out W hW (⟨by omega, by omega⟩ : I64 196) (by have := spr_lt_32_64 a; omega) (show unVal 196 (spreadN a 32 64) = (spreadN a 32 64, true) from un_spread 196 a 32 64 rfl (spr_again_32_64 a)))
        have HF := Lib.hid (spr_facts_32_64 a HAB.out)
        have HLT := Lib.hid (spr_lt_32_64 a)
        generalize spreadN a 32 64 = n at *
        go_wp2_with fail
        have hba : Below wr.heap.size wr (wr.alloc (.cells #[.int .i64 196, .int .i64 32, .int .i64 64] 42)) := (Below.refl _ _).alloc (Nat.le_refl _) _
        have hTa := HK.out _ _ hTr hba
        refine (HU.out _ hTa).mono ?_
        rintro e wA ⟨rfl, hbA⟩
        have hc0 : wA.cell? ⟨wr.heap.size, 0, none⟩ = some (.int .i64 196) := (hbA.cell (p := ⟨wr.heap.size, 0, none⟩) (by simp)).trans (by simp)
        have hc1 : wA.cell? ⟨wr.heap.size, 1, none⟩ = some (.int .i64 32) := (hbA.cell (p := ⟨wr.heap.size, 1, none⟩) (by simp)).trans (by simp)
        have hc2 : wA.cell? ⟨wr.heap.size, 2, none⟩ = some (.int .i64 64) := (hbA.cell (p := ⟨wr.heap.size, 2, none⟩) (by simp)).trans (by simp)
        have hTA := HK.out _ _ hTa hbA
        have hbB := hba.trans (hbA.mono hba.size)
        clear hTa hba hbA HU h0 h1 h2
        obtain ⟨f1, f2⟩ := HF.out
        go_wp2_with fail
        go_quiet (fail)
        go_wp2_with fail
        have hTD := HK.out _ _ hTA (below_drewN (Below.refl _ _) nq)
        have hbD := below_drewN hbB nq
        refine (HV.out _ hTD).mono ?_
        rintro e wC ⟨rfl, hbC⟩
        have hTC := HK.out _ _ hTD hbC
        have hbE := hbr.trans ((hbD.trans (hbC.mono hbD.size)).mono hbr.size)
        clear hTA hTD hbB hbC hbD HV hc0 hc1 hc2 f1
        go_wp2
        go_roundw
        case rel => exact ⟨5, by omega, rfl, hbE, hTC⟩
        case measure => simp [intOf]
      · rw [show (((5 : Nat) : Int)) = 5 from rfl]
        have h0 : wr.cell? ⟨B, 15, none⟩ = some (.int .i64 172) := (hbr.cell (p := ⟨B, 15, none⟩) (by show B < _; rw [HSZ.out]; omega)).trans C15.out
        have h1 : wr.cell? ⟨B, 16, none⟩ = some (.int .i64 32) := (hbr.cell (p := ⟨B, 16, none⟩) (by show B < _; rw [HSZ.out]; omega)).trans C16.out
        have h2 : wr.cell? ⟨B, 17, none⟩ = some (.int .i64 64) := (hbr.cell (p := ⟨B, 17, none⟩) (by show B < _; rw [HSZ.out]; omega)).trans C17.out
        have HU := Lib.hid (fun W hW => un_is HD.out W hW (⟨by omega, by omega⟩ : I64 172) HAB.out (show unVal 172 a = (spreadN a 32 64, true) from rfl))
        have HV := Lib.hid (fun W hW => un_is HD.out W hW (⟨by omega, by omega⟩ : I64 172) (by have := spr_lt_32_64 a; omega) (show unVal 172 (spreadN a 32 64) = (spreadN a 32 64, true) from un_spread 172 a 32 64 rfl (spr_again_32_64 a)))
        have HF := Lib.hid (spr_facts_32_64 a HAB.out)
        have HLT := Lib.hid (spr_lt_32_64 a)
        generalize spreadN a 32 64 = n at *
        go_wp2_with fail
        have hba : Below wr.heap.size wr (wr.alloc (.cells #[.int .i64 172, .int .i64 32, .int .i64 64] 42)) := (Below.refl _ _).alloc (Nat.le_refl _) _
        have hTa := HK.out _ _ hTr hba
        refine (HU.out _ hTa).mono ?_
        rintro e wA ⟨rfl, hbA⟩
        have hc0 : wA.cell? ⟨wr.heap.size, 0, none⟩ = some (.int .i64 172) := (hbA.cell (p := ⟨wr.heap.size, 0, none⟩) (by simp)).trans (by simp)
        have hc1 : wA.cell? ⟨wr.heap.size, 1, none⟩ = some (.int .i64 32) := (hbA.cell (p := ⟨wr.heap.size, 1, none⟩) (by simp)).trans (by simp)
        have hc2 : wA.cell? ⟨wr.heap.size, 2, none⟩ = some (.int .i64 64) := (hbA.cell (p := ⟨wr.heap.size, 2, none⟩) (by simp)).trans (by simp)
        have hTA := HK.out _ _ hTa hbA
        have hbB := hba.trans (hbA.mono hba.size)
        clear hTa hba hbA HU h0 h1 h2
        obtain ⟨f1, f2⟩ := HF.out
        go_wp2_with fail
        go_quiet (fail)
        go_wp2_with fail
        have hTD := HK.out _ _ hTA (below_drewN (Below.refl _ _) nq)
        have hbD := below_drewN hbB nq
        refine (HV.out _ hTD).mono ?_
        rintro e wC ⟨rfl, hbC⟩
        have hTC := HK.out _ _ hTD hbC
        have hbE := hbr.trans ((hbD.trans (hbC.mono hbD.size)).mono hbr.size)
        clear hTA hTD hbB hbC hbD HV hc0 hc1 hc2 f1
        go_wp2
        go_roundw
        case rel => exact ⟨6, by omega, rfl, hbE, hTC⟩
        case measure => simp [intOf]
    · have hlti : ¬ (j : Int) < 6 := by omega
      go_wp2
      go_ret
      exact ⟨rfl, hb2.trans (hbr.mono hb2.size)⟩
end
end Go.Proofs.YtbgcafkdojoilaaDoor.Num
