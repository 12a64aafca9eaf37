/-
  trammelref03's Un: what it comes to, code by code. Condition: the number is of 64 bits.
-/
import Derived.Test.YtbgcafkdojoilaaDoorNumQuot
namespace Go.Proofs.YtbgcafkdojoilaaDoor.Num
open Go.RowKit

/-- How many of the lowest w bits, from the highest down, are 0. -/
def lzF (a : Nat) : Nat → Nat
  | 0 => 0
  | w + 1 => if bitN a w = 0 then lzF a w + 1 else 0
/-- How many of d bits, from bit i up, are 0. -/
def tzF (a i : Nat) : Nat → Nat
  | 0 => 0
  | d + 1 => if bitN a i = 0 then tzF a (i + 1) d + 1 else 0
/-- How many of the lowest w bits are 1. -/
def pcF (a : Nat) : Nat → Nat
  | 0 => 0
  | w + 1 => pcF a w + bitN a w
theorem pcF_le (a w : Nat) : pcF a w ≤ w := by
  induction w with
  | zero => simp [pcF]
  | succ w ih => have := bitN_le a w; simp only [pcF]; omega
theorem lzF_zero (a : Nat) : lzF a 0 = 0 := rfl
theorem tzF_zero (a i : Nat) : tzF a i 0 = 0 := rfl
theorem lzF_none (a j : Nat) (h : bitN a j ≠ 0) : lzF a (j + 1) = 0 := by simp only [lzF]; rw [if_neg h]
theorem lzF_one (a j : Nat) (h : bitN a j = 0) : lzF a (j + 1) = lzF a j + 1 := by simp only [lzF]; rw [if_pos h]
theorem tzF_none (a i d : Nat) (h : bitN a i ≠ 0) : tzF a i (d + 1) = 0 := by simp only [tzF]; rw [if_neg h]
theorem tzF_one (a i d : Nat) (h : bitN a i = 0) : tzF a i (d + 1) = tzF a (i + 1) d + 1 := by simp only [tzF]; rw [if_pos h]
/-- What an operation of one number answers. -/
def unVal (op : Int) (a : Nat) : Nat × Bool :=
  if op = 69 then ((((cutN a 32 : Nat) : Int) == 0).toNat, true)
  else if op = 80 then ((((cutN a 64 : Nat) : Int) == 0).toNat, true)
  else if op = 103 then (lzF (cutN a 32) 32, true)
  else if op = 121 then (lzF (cutN a 64) 64, true)
  else if op = 104 then (tzF (cutN a 32) 0 32, true)
  else if op = 122 then (tzF (cutN a 64) 0 64, true)
  else if op = 105 then (pcF (cutN a 32) 32, true)
  else if op = 123 then (pcF (cutN a 64) 64, true)
  else if op = 167 ∨ op = 173 then (cutN a 32, true)
  else if op = 172 ∨ op = 196 then (spreadN a 32 64, true)
  else if op = 192 then (spreadN a 8 32, true)
  else if op = 193 then (spreadN a 16 32, true)
  else if op = 194 then (spreadN a 8 64, true)
  else if op = 195 then (spreadN a 16 64, true)
  else (0, false)
def Is2 (w : World) (v : Nat) (ok : Bool) (e : Ending) (w' : World) : Prop := e = .returned (.tuple #[.int .u64 (v : Int), .bool ok]) ∧ w = w'
set_option maxRecDepth 100000 in
theorem un_69 (a : Nat) (wo : World) (ha : a < 18446744073709551616) :
    Calls Tryd.prog 11 #[.int .i64 69, .int .u64 (a : Int)] wo (Is2 wo ((((cutN a 32 : Nat) : Int) == 0).toNat) true) := by
  have HC := Lib.hid (fun W => cut_any a 32 32 wide32 ha W)
  clear ha
  generalize cutN a 32 = c at *
  go_enter Tryd.func11, Tryd.ntmps11
  go_wp2_with fail
  refine (HC.out _).mono ?_
  rintro e w' ⟨rfl, rfl⟩
  go_wp2_with fail
  refine (one_any _ _).mono ?_
  rintro e w' ⟨rfl, rfl⟩
  go_wp2
  go_ret2
  exact ⟨rfl, rfl⟩
set_option maxRecDepth 100000 in
theorem un_80 (a : Nat) (wo : World) (ha : a < 18446744073709551616) :
    Calls Tryd.prog 11 #[.int .i64 80, .int .u64 (a : Int)] wo (Is2 wo ((((cutN a 64 : Nat) : Int) == 0).toNat) true) := by
  have HC := Lib.hid (fun W => cut_any a 64 64 wide64 ha W)
  clear ha
  generalize cutN a 64 = c at *
  go_enter Tryd.func11, Tryd.ntmps11
  go_wp2_with fail
  refine (HC.out _).mono ?_
  rintro e w' ⟨rfl, rfl⟩
  go_wp2_with fail
  refine (one_any _ _).mono ?_
  rintro e w' ⟨rfl, rfl⟩
  go_wp2
  go_ret2
  exact ⟨rfl, rfl⟩
set_option maxRecDepth 100000 in
theorem un_103 (a : Nat) (wo : World) (ha : a < 18446744073709551616) :
    Calls Tryd.prog 11 #[.int .i64 103, .int .u64 (a : Int)] wo (Is2 wo (lzF (cutN a 32) 32) true) := by
  have HC := Lib.hid (fun W => cut_any a 32 32 wide32 ha W)
  clear ha
  generalize cutN a 32 = c at *
  obtain ⟨v, hv⟩ : ∃ v, lzF c 32 = v := ⟨_, rfl⟩
  rw [hv]
  have HV := Lib.hid hv
  clear hv
  go_enter Tryd.func11, Tryd.ntmps11
  go_wp2_with fail
  refine (HC.out _).mono ?_
  rintro e w' ⟨rfl, rfl⟩
  go_wp2
  go_loop [8, 9] (fun n i => ∃ (j k : Nat), j ≤ 32 ∧ k ≤ 32 ∧ i = .int .i64 ((j : Int) - 1) ∧ n = .int .u64 (k : Int) ∧ Hid (lzF c 32 = k + lzF c j ∧ k + j = 32)) (fun _ i => (intOf i + 1).toNat)
  case atStart => exact ⟨32, 0, by omega, by omega, rfl, rfl, Lib.hid ⟨by omega, by omega⟩⟩
  case round =>
    obtain ⟨j, k, hj, hk, rfl, rfl, hD⟩ := hrel
    cases j with
    | zero =>
      obtain rfl : v = k := by have h1 := hD.out.1; rw [lzF_zero, HV.out] at h1; omega
      clear hD HV
      rw [show (((0 : Nat) : Int) - 1) = -1 from rfl]
      go_wp2
      go_ret2
      exact ⟨rfl, rfl⟩
    | succ q =>
      rw [show (((q + 1 : Nat) : Int) - 1) = (q : Int) from by omega]
      have HB := Lib.hid (fun W => bit_any c q W (by omega))
      have hj' : q ≤ 31 := by omega
      by_cases hb : bitN c q = 0
      · have hbz : ((bitN c q : Int) == 0) = true := by simp [hb]
        have HN : Hid (lzF c 32 = (k + 1) + lzF c q ∧ (k + 1) + q = 32) := Lib.hid (by have h1 := hD.out; rw [lzF_one c q hb] at h1; omega)
        have hk1 : k + 1 ≤ 32 := by have := HN.out.2; omega
        clear hD hj hb
        generalize bitN c q = b at *
        go_wp2_with fail
        refine (HB.out _).mono ?_
        rintro e w' ⟨rfl, rfl⟩
        go_wp2
        go_round
        case rel => exact ⟨q, k + 1, by omega, by omega, rfl, int_u64 (by omega), HN⟩
        case measure => simp [intOf]
      · have hbz : ((bitN c q : Int) == 0) = false := by simp; omega
        obtain rfl : v = k := by have h1 := hD.out.1; rw [lzF_none c q hb, HV.out] at h1; omega
        clear hD hj hb HV
        generalize bitN c q = b at *
        go_wp2_with fail
        refine (HB.out _).mono ?_
        rintro e w' ⟨rfl, rfl⟩
        go_wp2
        go_ret2
        exact ⟨rfl, rfl⟩
set_option maxRecDepth 100000 in
theorem un_121 (a : Nat) (wo : World) (ha : a < 18446744073709551616) :
    Calls Tryd.prog 11 #[.int .i64 121, .int .u64 (a : Int)] wo (Is2 wo (lzF (cutN a 64) 64) true) := by
  have HC := Lib.hid (fun W => cut_any a 64 64 wide64 ha W)
  clear ha
  generalize cutN a 64 = c at *
  obtain ⟨v, hv⟩ : ∃ v, lzF c 64 = v := ⟨_, rfl⟩
  rw [hv]
  have HV := Lib.hid hv
  clear hv
  go_enter Tryd.func11, Tryd.ntmps11
  go_wp2_with fail
  refine (HC.out _).mono ?_
  rintro e w' ⟨rfl, rfl⟩
  go_wp2
  go_loop [8, 9] (fun n i => ∃ (j k : Nat), j ≤ 64 ∧ k ≤ 64 ∧ i = .int .i64 ((j : Int) - 1) ∧ n = .int .u64 (k : Int) ∧ Hid (lzF c 64 = k + lzF c j ∧ k + j = 64)) (fun _ i => (intOf i + 1).toNat)
  case atStart => exact ⟨64, 0, by omega, by omega, rfl, rfl, Lib.hid ⟨by omega, by omega⟩⟩
  case round =>
    obtain ⟨j, k, hj, hk, rfl, rfl, hD⟩ := hrel
    cases j with
    | zero =>
      obtain rfl : v = k := by have h1 := hD.out.1; rw [lzF_zero, HV.out] at h1; omega
      clear hD HV
      rw [show (((0 : Nat) : Int) - 1) = -1 from rfl]
      go_wp2
      go_ret2
      exact ⟨rfl, rfl⟩
    | succ q =>
      rw [show (((q + 1 : Nat) : Int) - 1) = (q : Int) from by omega]
      have HB := Lib.hid (fun W => bit_any c q W (by omega))
      have hj' : q ≤ 63 := by omega
      by_cases hb : bitN c q = 0
      · have hbz : ((bitN c q : Int) == 0) = true := by simp [hb]
        have HN : Hid (lzF c 64 = (k + 1) + lzF c q ∧ (k + 1) + q = 64) := Lib.hid (by have h1 := hD.out; rw [lzF_one c q hb] at h1; omega)
        have hk1 : k + 1 ≤ 64 := by have := HN.out.2; omega
        clear hD hj hb
        generalize bitN c q = b at *
        go_wp2_with fail
        refine (HB.out _).mono ?_
        rintro e w' ⟨rfl, rfl⟩
        go_wp2
        go_round
        case rel => exact ⟨q, k + 1, by omega, by omega, rfl, int_u64 (by omega), HN⟩
        case measure => simp [intOf]
      · have hbz : ((bitN c q : Int) == 0) = false := by simp; omega
        obtain rfl : v = k := by have h1 := hD.out.1; rw [lzF_none c q hb, HV.out] at h1; omega
        clear hD hj hb HV
        generalize bitN c q = b at *
        go_wp2_with fail
        refine (HB.out _).mono ?_
        rintro e w' ⟨rfl, rfl⟩
        go_wp2
        go_ret2
        exact ⟨rfl, rfl⟩
set_option maxRecDepth 100000 in
theorem un_104 (a : Nat) (wo : World) (ha : a < 18446744073709551616) :
    Calls Tryd.prog 11 #[.int .i64 104, .int .u64 (a : Int)] wo (Is2 wo (tzF (cutN a 32) 0 32) true) := by
  have HC := Lib.hid (fun W => cut_any a 32 32 wide32 ha W)
  clear ha
  generalize cutN a 32 = c at *
  obtain ⟨v, hv⟩ : ∃ v, tzF c 0 32 = v := ⟨_, rfl⟩
  rw [hv]
  have HV := Lib.hid hv
  clear hv
  go_enter Tryd.func11, Tryd.ntmps11
  go_wp2_with fail
  refine (HC.out _).mono ?_
  rintro e w' ⟨rfl, rfl⟩
  go_wp2
  go_loop [8, 10] (fun n i => ∃ (k : Nat), k ≤ 32 ∧ i = .int .i64 (k : Int) ∧ n = .int .u64 (k : Int) ∧ Hid (tzF c 0 32 = k + tzF c k (32 - k))) (fun _ i => 32 - (intOf i).toNat)
  case atStart => exact ⟨0, by omega, rfl, rfl, Lib.hid (by simp)⟩
  case round =>
    obtain ⟨k, hk, rfl, rfl, hD⟩ := hrel
    by_cases hlt : k < 32
    · have hlti : (k : Int) < 32 := by omega
      have HB := Lib.hid (fun W => bit_any c k W (by omega))
      have hd : 32 - k = (32 - (k + 1)) + 1 := by omega
      by_cases hb : bitN c k = 0
      · have hbz : ((bitN c k : Int) == 0) = true := by simp [hb]
        have HN : Hid (tzF c 0 32 = (k + 1) + tzF c (k + 1) (32 - (k + 1))) := Lib.hid (by have h1 := hD.out; rw [hd, tzF_one c k _ hb] at h1; omega)
        clear hD hd hb
        generalize bitN c k = b at *
        go_wp2_with fail
        refine (HB.out _).mono ?_
        rintro e w' ⟨rfl, rfl⟩
        go_wp2
        go_round
        case rel => exact ⟨k + 1, by omega, by go_num, int_u64 (by omega), HN⟩
        case measure => simp [intOf]; omega
      · have hbz : ((bitN c k : Int) == 0) = false := by simp; omega
        obtain rfl : v = k := by have h1 := hD.out; rw [hd, tzF_none c k _ hb, HV.out] at h1; omega
        clear hD hd hb HV
        generalize bitN c v = b at *
        go_wp2_with fail
        refine (HB.out _).mono ?_
        rintro e w' ⟨rfl, rfl⟩
        go_wp2
        go_ret2
        exact ⟨rfl, rfl⟩
    · have hlti : ¬ (k : Int) < 32 := by omega
      obtain rfl : v = k := by have h1 := hD.out; rw [show 32 - k = 0 from by omega, tzF_zero, HV.out] at h1; omega
      clear hD HV
      go_wp2
      go_ret2
      exact ⟨rfl, rfl⟩
set_option maxRecDepth 100000 in
theorem un_122 (a : Nat) (wo : World) (ha : a < 18446744073709551616) :
    Calls Tryd.prog 11 #[.int .i64 122, .int .u64 (a : Int)] wo (Is2 wo (tzF (cutN a 64) 0 64) true) := by
  have HC := Lib.hid (fun W => cut_any a 64 64 wide64 ha W)
  clear ha
  generalize cutN a 64 = c at *
  obtain ⟨v, hv⟩ : ∃ v, tzF c 0 64 = v := ⟨_, rfl⟩
  rw [hv]
  have HV := Lib.hid hv
  clear hv
  go_enter Tryd.func11, Tryd.ntmps11
  go_wp2_with fail
  refine (HC.out _).mono ?_
  rintro e w' ⟨rfl, rfl⟩
  go_wp2
  go_loop [8, 10] (fun n i => ∃ (k : Nat), k ≤ 64 ∧ i = .int .i64 (k : Int) ∧ n = .int .u64 (k : Int) ∧ Hid (tzF c 0 64 = k + tzF c k (64 - k))) (fun _ i => 64 - (intOf i).toNat)
  case atStart => exact ⟨0, by omega, rfl, rfl, Lib.hid (by simp)⟩
  case round =>
    obtain ⟨k, hk, rfl, rfl, hD⟩ := hrel
    by_cases hlt : k < 64
    · have hlti : (k : Int) < 64 := by omega
      have HB := Lib.hid (fun W => bit_any c k W (by omega))
      have hd : 64 - k = (64 - (k + 1)) + 1 := by omega
      by_cases hb : bitN c k = 0
      · have hbz : ((bitN c k : Int) == 0) = true := by simp [hb]
        have HN : Hid (tzF c 0 64 = (k + 1) + tzF c (k + 1) (64 - (k + 1))) := Lib.hid (by have h1 := hD.out; rw [hd, tzF_one c k _ hb] at h1; omega)
        clear hD hd hb
        generalize bitN c k = b at *
        go_wp2_with fail
        refine (HB.out _).mono ?_
        rintro e w' ⟨rfl, rfl⟩
        go_wp2
        go_round
        case rel => exact ⟨k + 1, by omega, by go_num, int_u64 (by omega), HN⟩
        case measure => simp [intOf]; omega
      · have hbz : ((bitN c k : Int) == 0) = false := by simp; omega
        obtain rfl : v = k := by have h1 := hD.out; rw [hd, tzF_none c k _ hb, HV.out] at h1; omega
        clear hD hd hb HV
        generalize bitN c v = b at *
        go_wp2_with fail
        refine (HB.out _).mono ?_
        rintro e w' ⟨rfl, rfl⟩
        go_wp2
        go_ret2
        exact ⟨rfl, rfl⟩
    · have hlti : ¬ (k : Int) < 64 := by omega
      obtain rfl : v = k := by have h1 := hD.out; rw [show 64 - k = 0 from by omega, tzF_zero, HV.out] at h1; omega
      clear hD HV
      go_wp2
      go_ret2
      exact ⟨rfl, rfl⟩
set_option maxRecDepth 100000 in
theorem un_105 (a : Nat) (wo : World) (ha : a < 18446744073709551616) :
    Calls Tryd.prog 11 #[.int .i64 105, .int .u64 (a : Int)] wo (Is2 wo (pcF (cutN a 32) 32) true) := by
  have HC := Lib.hid (fun W => cut_any a 32 32 wide32 ha W)
  clear ha
  generalize cutN a 32 = c at *
  obtain ⟨v, hv⟩ : ∃ v, pcF c 32 = v := ⟨_, rfl⟩
  rw [hv]
  have HV := Lib.hid hv
  clear hv
  go_enter Tryd.func11, Tryd.ntmps11
  go_wp2_with fail
  refine (HC.out _).mono ?_
  rintro e w' ⟨rfl, rfl⟩
  go_wp2
  go_loop [8, 11] (fun n i => ∃ (k m : Nat), k ≤ 32 ∧ m ≤ 32 ∧ i = .int .i64 (k : Int) ∧ n = .int .u64 (m : Int) ∧ Hid (m = pcF c k)) (fun _ i => 32 - (intOf i).toNat)
  case atStart => exact ⟨0, 0, by omega, by omega, rfl, rfl, Lib.hid rfl⟩
  case round =>
    obtain ⟨k, m, hk, hm, rfl, rfl, hD⟩ := hrel
    by_cases hlt : k < 32
    · have hlti : (k : Int) < 32 := by omega
      have HB := Lib.hid (fun W => bit_any c k W (by omega))
      have HN : Hid (m + bitN c k = pcF c (k + 1)) := Lib.hid (by simp only [pcF]; rw [hD.out])
      have hmb : m + bitN c k ≤ 32 := by have h1 := HN.out; have h2 := pcF_le c (k + 1); omega
      have hB1 := bitN_le c k
      clear hD
      generalize bitN c k = b at *
      go_wp2_with fail
      refine (HB.out _).mono ?_
      rintro e w' ⟨rfl, rfl⟩
      go_wp2
      go_round
      case rel => exact ⟨k + 1, m + b, by omega, by omega, by go_num, int_u64 (by omega), HN⟩
      case measure => simp [intOf]; omega
    · have hlti : ¬ (k : Int) < 32 := by omega
      obtain rfl : v = m := by rw [hD.out, show k = 32 from by omega, HV.out]
      clear hD HV
      go_wp2
      go_ret2
      exact ⟨rfl, rfl⟩
set_option maxRecDepth 100000 in
theorem un_123 (a : Nat) (wo : World) (ha : a < 18446744073709551616) :
    Calls Tryd.prog 11 #[.int .i64 123, .int .u64 (a : Int)] wo (Is2 wo (pcF (cutN a 64) 64) true) := by
  have HC := Lib.hid (fun W => cut_any a 64 64 wide64 ha W)
  clear ha
  generalize cutN a 64 = c at *
  obtain ⟨v, hv⟩ : ∃ v, pcF c 64 = v := ⟨_, rfl⟩
  rw [hv]
  have HV := Lib.hid hv
  clear hv
  go_enter Tryd.func11, Tryd.ntmps11
  go_wp2_with fail
  refine (HC.out _).mono ?_
  rintro e w' ⟨rfl, rfl⟩
  go_wp2
  go_loop [8, 11] (fun n i => ∃ (k m : Nat), k ≤ 64 ∧ m ≤ 64 ∧ i = .int .i64 (k : Int) ∧ n = .int .u64 (m : Int) ∧ Hid (m = pcF c k)) (fun _ i => 64 - (intOf i).toNat)
  case atStart => exact ⟨0, 0, by omega, by omega, rfl, rfl, Lib.hid rfl⟩
  case round =>
    obtain ⟨k, m, hk, hm, rfl, rfl, hD⟩ := hrel
    by_cases hlt : k < 64
    · have hlti : (k : Int) < 64 := by omega
      have HB := Lib.hid (fun W => bit_any c k W (by omega))
      have HN : Hid (m + bitN c k = pcF c (k + 1)) := Lib.hid (by simp only [pcF]; rw [hD.out])
      have hmb : m + bitN c k ≤ 64 := by have h1 := HN.out; have h2 := pcF_le c (k + 1); omega
      have hB1 := bitN_le c k
      clear hD
      generalize bitN c k = b at *
      go_wp2_with fail
      refine (HB.out _).mono ?_
      rintro e w' ⟨rfl, rfl⟩
      go_wp2
      go_round
      case rel => exact ⟨k + 1, m + b, by omega, by omega, by go_num, int_u64 (by omega), HN⟩
      case measure => simp [intOf]; omega
    · have hlti : ¬ (k : Int) < 64 := by omega
      obtain rfl : v = m := by rw [hD.out, show k = 64 from by omega, HV.out]
      clear hD HV
      go_wp2
      go_ret2
      exact ⟨rfl, rfl⟩
set_option maxRecDepth 100000 in
theorem un_167 (a : Nat) (wo : World) (ha : a < 18446744073709551616) :
    Calls Tryd.prog 11 #[.int .i64 167, .int .u64 (a : Int)] wo (Is2 wo (cutN a 32) true) := by
  have HC := Lib.hid (fun W => cut_any a 32 32 wide32 ha W)
  clear ha
  go_enter Tryd.func11, Tryd.ntmps11
  go_wp2_with fail
  refine (HC.out _).mono ?_
  rintro e w' ⟨rfl, rfl⟩
  go_wp2_with fail
  refine (HC.out _).mono ?_
  rintro e w' ⟨rfl, rfl⟩
  go_wp2
  go_ret2
  exact ⟨rfl, rfl⟩
set_option maxRecDepth 100000 in
theorem un_173 (a : Nat) (wo : World) (ha : a < 18446744073709551616) :
    Calls Tryd.prog 11 #[.int .i64 173, .int .u64 (a : Int)] wo (Is2 wo (cutN a 32) true) := by
  have HC := Lib.hid (fun W => cut_any a 32 32 wide32 ha W)
  clear ha
  go_enter Tryd.func11, Tryd.ntmps11
  go_wp2_with fail
  refine (HC.out _).mono ?_
  rintro e w' ⟨rfl, rfl⟩
  go_wp2_with fail
  refine (HC.out _).mono ?_
  rintro e w' ⟨rfl, rfl⟩
  go_wp2
  go_ret2
  exact ⟨rfl, rfl⟩
set_option maxRecDepth 100000 in
theorem un_172 (a : Nat) (wo : World) (ha : a < 18446744073709551616) :
    Calls Tryd.prog 11 #[.int .i64 172, .int .u64 (a : Int)] wo (Is2 wo (spreadN a 32 64) true) := by
  have HC := Lib.hid (fun W => cut_any a 32 32 wide32 ha W)
  clear ha
  go_enter Tryd.func11, Tryd.ntmps11
  go_wp2_with fail
  refine (HC.out _).mono ?_
  rintro e w' ⟨rfl, rfl⟩
  go_wp2_with fail
  refine (spread_any a 32 64 _ (by omega) (by omega) (by omega)).mono ?_
  rintro e w' ⟨rfl, rfl⟩
  go_wp2
  go_ret2
  exact ⟨rfl, rfl⟩
set_option maxRecDepth 100000 in
theorem un_196 (a : Nat) (wo : World) (ha : a < 18446744073709551616) :
    Calls Tryd.prog 11 #[.int .i64 196, .int .u64 (a : Int)] wo (Is2 wo (spreadN a 32 64) true) := by
  have HC := Lib.hid (fun W => cut_any a 32 32 wide32 ha W)
  clear ha
  go_enter Tryd.func11, Tryd.ntmps11
  go_wp2_with fail
  refine (HC.out _).mono ?_
  rintro e w' ⟨rfl, rfl⟩
  go_wp2_with fail
  refine (spread_any a 32 64 _ (by omega) (by omega) (by omega)).mono ?_
  rintro e w' ⟨rfl, rfl⟩
  go_wp2
  go_ret2
  exact ⟨rfl, rfl⟩
set_option maxRecDepth 100000 in
theorem un_192 (a : Nat) (wo : World) (ha : a < 18446744073709551616) :
    Calls Tryd.prog 11 #[.int .i64 192, .int .u64 (a : Int)] wo (Is2 wo (spreadN a 8 32) true) := by
  have HC := Lib.hid (fun W => cut_any a 32 32 wide32 ha W)
  clear ha
  go_enter Tryd.func11, Tryd.ntmps11
  go_wp2_with fail
  refine (HC.out _).mono ?_
  rintro e w' ⟨rfl, rfl⟩
  go_wp2_with fail
  refine (spread_any a 8 32 _ (by omega) (by omega) (by omega)).mono ?_
  rintro e w' ⟨rfl, rfl⟩
  go_wp2
  go_ret2
  exact ⟨rfl, rfl⟩
set_option maxRecDepth 100000 in
theorem un_193 (a : Nat) (wo : World) (ha : a < 18446744073709551616) :
    Calls Tryd.prog 11 #[.int .i64 193, .int .u64 (a : Int)] wo (Is2 wo (spreadN a 16 32) true) := by
  have HC := Lib.hid (fun W => cut_any a 32 32 wide32 ha W)
  clear ha
  go_enter Tryd.func11, Tryd.ntmps11
  go_wp2_with fail
  refine (HC.out _).mono ?_
  rintro e w' ⟨rfl, rfl⟩
  go_wp2_with fail
  refine (spread_any a 16 32 _ (by omega) (by omega) (by omega)).mono ?_
  rintro e w' ⟨rfl, rfl⟩
  go_wp2
  go_ret2
  exact ⟨rfl, rfl⟩
set_option maxRecDepth 100000 in
theorem un_194 (a : Nat) (wo : World) (ha : a < 18446744073709551616) :
    Calls Tryd.prog 11 #[.int .i64 194, .int .u64 (a : Int)] wo (Is2 wo (spreadN a 8 64) true) := by
  have HC := Lib.hid (fun W => cut_any a 32 32 wide32 ha W)
  clear ha
  go_enter Tryd.func11, Tryd.ntmps11
  go_wp2_with fail
  refine (HC.out _).mono ?_
  rintro e w' ⟨rfl, rfl⟩
  go_wp2_with fail
  refine (spread_any a 8 64 _ (by omega) (by omega) (by omega)).mono ?_
  rintro e w' ⟨rfl, rfl⟩
  go_wp2
  go_ret2
  exact ⟨rfl, rfl⟩
set_option maxRecDepth 100000 in
theorem un_195 (a : Nat) (wo : World) (ha : a < 18446744073709551616) :
    Calls Tryd.prog 11 #[.int .i64 195, .int .u64 (a : Int)] wo (Is2 wo (spreadN a 16 64) true) := by
  have HC := Lib.hid (fun W => cut_any a 32 32 wide32 ha W)
  clear ha
  go_enter Tryd.func11, Tryd.ntmps11
  go_wp2_with fail
  refine (HC.out _).mono ?_
  rintro e w' ⟨rfl, rfl⟩
  go_wp2_with fail
  refine (spread_any a 16 64 _ (by omega) (by omega) (by omega)).mono ?_
  rintro e w' ⟨rfl, rfl⟩
  go_wp2
  go_ret2
  exact ⟨rfl, rfl⟩
end Go.Proofs.YtbgcafkdojoilaaDoor.Num
