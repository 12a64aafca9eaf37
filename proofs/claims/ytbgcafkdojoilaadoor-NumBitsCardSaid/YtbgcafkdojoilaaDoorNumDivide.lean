/-
  trammelref03's divide: quotient and rest by long division. Condition: the divisor is not 0.
-/
import Derived.Test.YtbgcafkdojoilaaDoorNumSpread
namespace Go.Proofs.YtbgcafkdojoilaaDoor.Num
open Go.RowKit

/-- The highest bits of a number, one more. -/
theorem div_pow_next (a q : Nat) : a / 2 ^ q = a / 2 ^ (q + 1) * 2 + bitN a q := by
  unfold bitN
  rw [Nat.pow_succ, ← Nat.div_div_eq_div_mul]
  omega
/-- A step of the long division. -/
theorem div_step (A b x : Nat) (hb : 0 < b) (hx : x ≤ 1) :
    (b ≤ A % b * 2 + x → (A * 2 + x) / b = A / b * 2 + 1 ∧ (A * 2 + x) % b = A % b * 2 + x - b) ∧ (¬ b ≤ A % b * 2 + x → (A * 2 + x) / b = A / b * 2 ∧ (A * 2 + x) % b = A % b * 2 + x) := by
  have h1 : b * (A / b) + A % b = A := Nat.div_add_mod A b
  have h2 : A % b < b := Nat.mod_lt A hb
  generalize A / b = Q at *
  generalize A % b = R at *
  have h3 : A * 2 + x = b * (Q * 2) + (R * 2 + x) := by rw [← h1, Nat.add_mul, ← Nat.mul_assoc, Nat.add_assoc]
  constructor
  · intro h
    have h4 : A * 2 + x = b * (Q * 2 + 1) + (R * 2 + x - b) := by rw [h3, Nat.mul_add b, Nat.mul_one]; omega
    rw [h4]
    constructor
    · rw [Nat.mul_add_div hb, Nat.div_eq_of_lt (by omega)]
    · rw [Nat.mul_add_mod, Nat.mod_eq_of_lt (by omega)]
  · intro h
    rw [h3]
    constructor
    · rw [Nat.mul_add_div hb, Nat.div_eq_of_lt (by omega)]; rfl
    · rw [Nat.mul_add_mod, Nat.mod_eq_of_lt (by omega)]
/-- How far the long division has come: the bits from I + 1 on are divided. -/
def DivAt (a b : Nat) (I : Int) (Q R : Nat) : Prop := Q = a / 2 ^ (I + 1).toNat / b ∧ R = a / 2 ^ (I + 1).toNat % b
theorem DivAt.start (a b : Nat) (ha : a < 18446744073709551616) : DivAt a b 63 0 0 := by
  have e : a / 2 ^ ((63 : Int) + 1).toNat = 0 := Nat.div_eq_of_lt ha
  unfold DivAt
  rw [e]
  simp
theorem DivAt.more {a b q Q R : Nat} (h : DivAt a b (q : Int) Q R) (hb : 0 < b) (hle : b ≤ R * 2 + bitN a q) : DivAt a b ((q : Int) - 1) (Q * 2 + 1) (R * 2 + bitN a q - b) := by
  unfold DivAt at *
  rw [show ((q : Int) + 1).toNat = q + 1 from by omega] at h
  rw [show ((q : Int) - 1 + 1).toNat = q from by omega, div_pow_next a q]
  obtain ⟨rfl, rfl⟩ := h
  obtain ⟨h1, h2⟩ := (div_step (a / 2 ^ (q + 1)) b (bitN a q) hb (bitN_le a q)).1 hle
  exact ⟨h1.symm, h2.symm⟩
theorem DivAt.less {a b q Q R : Nat} (h : DivAt a b (q : Int) Q R) (hb : 0 < b) (hle : ¬ b ≤ R * 2 + bitN a q) : DivAt a b ((q : Int) - 1) (Q * 2) (R * 2 + bitN a q) := by
  unfold DivAt at *
  rw [show ((q : Int) + 1).toNat = q + 1 from by omega] at h
  rw [show ((q : Int) - 1 + 1).toNat = q from by omega, div_pow_next a q]
  obtain ⟨rfl, rfl⟩ := h
  obtain ⟨h1, h2⟩ := (div_step (a / 2 ^ (q + 1)) b (bitN a q) hb (bitN_le a q)).2 hle
  exact ⟨h1.symm, h2.symm⟩
theorem DivAt.bound {a b q Q R : Nat} (h : DivAt a b (q : Int) Q R) (hb : 0 < b) (ha : a < 18446744073709551616) : (Q : Int) ≤ 9223372036854775807 ∧ R < b := by
  unfold DivAt at h
  rw [show ((q : Int) + 1).toNat = q + 1 from by omega] at h
  obtain ⟨rfl, rfl⟩ := h
  have h1 : a / 2 ^ (q + 1) / b ≤ a / 2 ^ (q + 1) := Nat.div_le_self _ _
  have h2 : a / 2 ^ (q + 1) ≤ a / 2 := by
    rw [Nat.pow_succ, Nat.mul_comm, ← Nat.div_div_eq_div_mul]
    exact Nat.div_le_self _ _
  exact ⟨by omega, Nat.mod_lt _ hb⟩
theorem DivAt.ends {a b Q R : Nat} {I : Int} (h : DivAt a b I Q R) (h1 : -1 ≤ I) (h2 : ¬ 0 ≤ I) : Q = a / b ∧ R = a % b := by
  unfold DivAt at h
  rw [show (I + 1).toNat = 0 from by omega, Nat.pow_zero, Nat.div_one] at h
  exact h
theorem wrap_thrice (R x b : Nat) (h : 9223372036854775808 ≤ R ∧ R < b ∧ b < 18446744073709551616) (hx : x ≤ 1) :
    IntKind.u64.wrap (IntKind.u64.wrap (IntKind.u64.wrap ((R : Int) * 2) + (x : Int)) - (b : Int)) = ((R * 2 + x - b : Nat) : Int) := by
  rw [IntKind.wrap_u64, IntKind.wrap_u64, IntKind.wrap_u64]
  omega
set_option maxHeartbeats 1000000 in
theorem divide_any (a b u v : Nat) (wo : World) (ha : a < 18446744073709551616) (hb : b < 18446744073709551616) (hb0 : 0 < b) (hu : a / b = u) (hv : a % b = v) :
    Calls Tryd.prog 39 #[.int .u64 (a : Int), .int .u64 (b : Int)] wo fun e w' => e = .returned (.tuple #[.int .u64 (u : Int), .int .u64 (v : Int)]) ∧ wo = w' := by
  have HS := Lib.hid (DivAt.start a b ha)
  have HA := Lib.hid ha
  have HBB := Lib.hid hb
  have HU := Lib.hid hu
  have HV := Lib.hid hv
  clear ha hb hu hv
  go_enter Tryd.func39, Tryd.ntmps39
  go_wp2
  go_loop [6, 7, 8] (fun x r i => ∃ (I : Int) (Q R : Nat), -1 ≤ I ∧ I < 64 ∧ i = .int .i64 I ∧ x = .int .u64 (Q : Int) ∧ r = .int .u64 (R : Int) ∧ Hid (DivAt a b I Q R)) (fun _ _ i => (intOf i + 1).toNat)
  case atStart => exact ⟨63, 0, 0, by omega, by omega, rfl, rfl, rfl, HS⟩
  case round =>
    obtain ⟨I, Q, R, hI1, hI2, rfl, rfl, rfl, hD⟩ := hrel
    clear HS
    by_cases hI : 0 ≤ I
    · obtain ⟨q, rfl⟩ := Int.eq_ofNat_of_zero_le hI
      obtain ⟨hQ, hR⟩ := hD.out.bound hb0 HA.out
      have HB := Lib.hid (fun W => bit_any a q W (by omega))
      have hB1 := bitN_le a q
      have HM := Lib.hid (hD.out.more hb0)
      have HL := Lib.hid (hD.out.less hb0)
      have hbig := HBB.out
      clear hD HA HBB HU HV
      generalize bitN a q = x at *
      by_cases hov : R < 9223372036854775808
      · have hovi : (R : Int) ≤ 9223372036854775807 := by omega
        have hov0 : (R : Int) / 9223372036854775808 = 0 := by omega
        by_cases hle : b ≤ R * 2 + x
        · have hlei : (b : Int) ≤ (R : Int) * 2 + (x : Int) := by omega
          have HN := Lib.hid (HM.out hle)
          clear HM HL hbig
          go_wp2_with fail
          refine (HB.out _).mono ?_
          rintro e w' ⟨rfl, rfl⟩
          go_wp2
          go_round
          case rel => exact ⟨(q : Int) - 1, Q * 2 + 1, R * 2 + x - b, by omega, by omega, rfl, int_u64 (by omega), int_u64 (by omega), HN⟩
          case measure => simp [intOf]
        · have hlei : ¬ (b : Int) ≤ (R : Int) * 2 + (x : Int) := by omega
          have HN := Lib.hid (HL.out hle)
          clear HM HL hbig
          go_wp2_with fail
          refine (HB.out _).mono ?_
          rintro e w' ⟨rfl, rfl⟩
          go_wp2
          go_round
          case rel => exact ⟨(q : Int) - 1, Q * 2, R * 2 + x, by omega, by omega, rfl, int_u64 (by omega), int_u64 (by omega), HN⟩
          case measure => simp [intOf]
      · have hov1 : (R : Int) / 9223372036854775808 = 1 := by omega
        have HN := Lib.hid (HM.out (by omega))
        have HR : Hid (9223372036854775808 ≤ R ∧ R < b ∧ b < 18446744073709551616) := Lib.hid (by omega)
        clear HM HL hbig hov
        go_wp2_with fail
        refine (HB.out _).mono ?_
        rintro e w' ⟨rfl, rfl⟩
        go_wp2
        go_round
        case rel => exact ⟨(q : Int) - 1, Q * 2 + 1, R * 2 + x - b, by omega, by omega, rfl, int_u64 (by omega), int_u64 (wrap_thrice R x b HR.out hB1), HN⟩
        case measure => simp [intOf]
    · obtain ⟨h1, h2⟩ := hD.out.ends hI1 hI
      obtain rfl : Q = u := h1.trans HU.out
      obtain rfl : R = v := h2.trans HV.out
      clear hD h1 h2 HU HV
      go_wp2
      go_ret2
      exact ⟨rfl, rfl⟩
end Go.Proofs.YtbgcafkdojoilaaDoor.Num
