/-
  math/bits.OnesCount64: it counts the bits that are 1. Condition: the number is of 64 bits.
-/
import Derived.Test.YtbgcafkdojoilaaDoorNumOnes
import Derived.Laws.Bits128
import Derived.Test.YtbgcafkdojoilaaDoorNumSpreadsLaw
namespace Go.Proofs.YtbgcafkdojoilaaDoor.Num
open Go.RowKit

theorem sh1 (a b c d e f g h : Nat) (h0 : a ≤ 8) : (a + 256 * b + 65536 * c + 16777216 * d + 4294967296 * e + 1099511627776 * f + 281474976710656 * g + 72057594037927936 * h) / 256 = b + 256 * c + 65536 * d + 16777216 * e + 4294967296 * f + 1099511627776 * g + 281474976710656 * h := by omega
theorem sh2 (a b c d e f g h : Nat) (h0 : a ≤ 16) (h1 : b ≤ 16) : (a + 256 * b + 65536 * c + 16777216 * d + 4294967296 * e + 1099511627776 * f + 281474976710656 * g + 72057594037927936 * h) / 65536 = c + 256 * d + 65536 * e + 16777216 * f + 4294967296 * g + 1099511627776 * h := by omega
theorem sh4 (a b c d e f g h : Nat) (h0 : a ≤ 32) (h1 : b ≤ 32) (h2 : c ≤ 32) (h3 : d ≤ 32) : (a + 256 * b + 65536 * c + 16777216 * d + 4294967296 * e + 1099511627776 * f + 281474976710656 * g + 72057594037927936 * h) / 4294967296 = e + 256 * f + 65536 * g + 16777216 * h := by omega
theorem fold_bytes (p0 p1 p2 p3 p4 p5 p6 p7 X : Nat) (h0 : p0 ≤ 8) (h1 : p1 ≤ 8) (h2 : p2 ≤ 8) (h3 : p3 ≤ 8) (h4 : p4 ≤ 8) (h5 : p5 ≤ 8) (h6 : p6 ≤ 8) (h7 : p7 ≤ 8)
    (hX : X = p0 + 256 * p1 + 65536 * p2 + 16777216 * p3 + 4294967296 * p4 + 1099511627776 * p5 + 281474976710656 * p6 + 72057594037927936 * p7) :
    ∃ x4 x5 x6 : Nat, x4 = X + X / 256 ∧ x5 = x4 + x4 / 65536 ∧ x6 = x5 + x5 / 4294967296 ∧ x6 % 128 = p0 + p1 + p2 + p3 + p4 + p5 + p6 + p7 ∧ x4 < 9223372036854775808 ∧ x5 < 9223372036854775808 ∧ x6 < 9223372036854775808 := by
  refine ⟨_, _, _, rfl, rfl, rfl, ?_⟩
  have e1 : X + X / 256 = (p0 + p1) + 256 * (p1 + p2) + 65536 * (p2 + p3) + 16777216 * (p3 + p4) + 4294967296 * (p4 + p5) + 1099511627776 * (p5 + p6) + 281474976710656 * (p6 + p7) + 72057594037927936 * p7 := by
    rw [hX, sh1 p0 p1 p2 p3 p4 p5 p6 p7 h0]; omega
  rw [e1, sh2 (p0 + p1) (p1 + p2) (p2 + p3) (p3 + p4) (p4 + p5) (p5 + p6) (p6 + p7) p7 (by omega) (by omega)]
  have e2 : (p0 + p1) + 256 * (p1 + p2) + 65536 * (p2 + p3) + 16777216 * (p3 + p4) + 4294967296 * (p4 + p5) + 1099511627776 * (p5 + p6) + 281474976710656 * (p6 + p7) + 72057594037927936 * p7 + ((p2 + p3) + 256 * (p3 + p4) + 65536 * (p4 + p5) + 16777216 * (p5 + p6) + 4294967296 * (p6 + p7) + 1099511627776 * p7) =
      (p0 + p1 + p2 + p3) + 256 * (p1 + p2 + p3 + p4) + 65536 * (p2 + p3 + p4 + p5) + 16777216 * (p3 + p4 + p5 + p6) + 4294967296 * (p4 + p5 + p6 + p7) + 1099511627776 * (p5 + p6 + p7) + 281474976710656 * (p6 + p7) + 72057594037927936 * p7 := by omega
  rw [e2, sh4 (p0 + p1 + p2 + p3) (p1 + p2 + p3 + p4) (p2 + p3 + p4 + p5) (p3 + p4 + p5 + p6) (p4 + p5 + p6 + p7) (p5 + p6 + p7) (p6 + p7) p7 (by omega) (by omega) (by omega) (by omega)]
  refine ⟨?_, ?_, ?_, ?_⟩
  all_goals omega
theorem st1 (x : Nat) (hx : x < 18446744073709551616) : IntKind.u64.wrap (bits .and .u64 ((x : Int) / 2) 6148914691236517205 + bits .and .u64 (x : Int) 6148914691236517205) = ((f1 8 x : Nat) : Int) ∧ f1 8 x < 18446744073709551616 := by
  have m1 : mask 85 8 = 6148914691236517205 := by decide
  have c1 : f1 8 x = (x / 2 &&& 6148914691236517205) + (x &&& 6148914691236517205) := by unfold f1; rw [m1]
  have b1 : x / 2 &&& 6148914691236517205 ≤ 6148914691236517205 := Nat.and_le_right
  have b2 : x &&& 6148914691236517205 ≤ 6148914691236517205 := Nat.and_le_right
  rw [c1, show (x : Int) / 2 = ((x / 2 : Nat) : Int) from by omega, show (6148914691236517205 : Int) = ((6148914691236517205 : Nat) : Int) from rfl, u64_and_nat _ _ (by omega) (by omega), u64_and_nat _ _ hx (by omega), IntKind.wrap_u64]
  generalize x / 2 &&& 6148914691236517205 = A at *
  generalize x &&& 6148914691236517205 = B at *
  omega
theorem st2 (x : Nat) (hx : x < 18446744073709551616) : IntKind.u64.wrap (bits .and .u64 ((x : Int) / 4) 3689348814741910323 + bits .and .u64 (x : Int) 3689348814741910323) = ((f2 8 x : Nat) : Int) ∧ f2 8 x ≤ 7378697629483820646 := by
  have m1 : mask 51 8 = 3689348814741910323 := by decide
  have c1 : f2 8 x = (x / 4 &&& 3689348814741910323) + (x &&& 3689348814741910323) := by unfold f2; rw [m1]
  have b1 : x / 4 &&& 3689348814741910323 ≤ 3689348814741910323 := Nat.and_le_right
  have b2 : x &&& 3689348814741910323 ≤ 3689348814741910323 := Nat.and_le_right
  rw [c1, show (x : Int) / 4 = ((x / 4 : Nat) : Int) from by omega, show (3689348814741910323 : Int) = ((3689348814741910323 : Nat) : Int) from rfl, u64_and_nat _ _ (by omega) (by omega), u64_and_nat _ _ hx (by omega), IntKind.wrap_u64]
  generalize x / 4 &&& 3689348814741910323 = A at *
  generalize x &&& 3689348814741910323 = B at *
  omega
theorem st3 (x : Nat) (hx : x ≤ 7378697629483820646) : bits .and .u64 (IntKind.u64.wrap ((x : Int) / 16 + (x : Int))) 1085102592571150095 = ((f3 8 x : Nat) : Int) := by
  have m1 : mask 15 8 = 1085102592571150095 := by decide
  have c1 : f3 8 x = (x / 16 + x) &&& 1085102592571150095 := by unfold f3; rw [m1]
  rw [c1, show IntKind.u64.wrap ((x : Int) / 16 + (x : Int)) = ((x / 16 + x : Nat) : Int) from by rw [IntKind.wrap_u64]; omega, show (1085102592571150095 : Int) = ((1085102592571150095 : Nat) : Int) from rfl, u64_and_nat _ _ (by omega) (by omega)]
theorem steps (x : Nat) (hx : x < 18446744073709551616) : ∃ x1 x2 x3 x4 x5 x6 : Nat,
    IntKind.u64.wrap (bits .and .u64 ((x : Int) / 2) 6148914691236517205 + bits .and .u64 (x : Int) 6148914691236517205) = (x1 : Int) ∧
    IntKind.u64.wrap (bits .and .u64 ((x1 : Int) / 4) 3689348814741910323 + bits .and .u64 (x1 : Int) 3689348814741910323) = (x2 : Int) ∧
    bits .and .u64 (IntKind.u64.wrap ((x2 : Int) / 16 + (x2 : Int))) 1085102592571150095 = (x3 : Int) ∧
    IntKind.u64.wrap ((x3 : Int) + (x3 : Int) / 256) = (x4 : Int) ∧ IntKind.u64.wrap ((x4 : Int) + (x4 : Int) / 65536) = (x5 : Int) ∧ IntKind.u64.wrap ((x5 : Int) + (x5 : Int) / 4294967296) = (x6 : Int) ∧
    x6 % 128 = pcF x 64 ∧ x6 < 9223372036854775808 := by
  obtain ⟨s1, l1⟩ := st1 x hx
  obtain ⟨s2, l2⟩ := st2 (f1 8 x) l1
  have s3 := st3 (f2 8 (f1 8 x)) l2
  have hs := ones_bytes x
  rw [hs] at s3
  obtain ⟨p0, p1, p2, p3, p4, p5, p6, p7, h0, h1, h2, h3, h4, h5, h6, h7, hsum, hpc⟩ := sums_all x
  obtain ⟨x4, x5, x6, e4, e5, e6, hm, l4, l5, l6⟩ := fold_bytes p0 p1 p2 p3 p4 p5 p6 p7 _ h0 h1 h2 h3 h4 h5 h6 h7 hsum
  refine ⟨f1 8 x, f2 8 (f1 8 x), sums 8 x, x4, x5, x6, s1, s2, s3, ?_, ?_, ?_, by rw [hm, hpc], l6⟩
  · clear s1 s2 s3 l1 l2 hs hsum hpc hm h0 h1 h2 h3 h4 h5 h6 h7
    rw [IntKind.wrap_u64]; generalize sums 8 x = X at *; omega
  · clear s1 s2 s3 l1 l2 hs hsum hpc hm h0 h1 h2 h3 h4 h5 h6 h7 e4 e6
    rw [IntKind.wrap_u64]; omega
  · clear s1 s2 s3 l1 l2 hs hsum hpc hm h0 h1 h2 h3 h4 h5 h6 h7 e4 e5
    rw [IntKind.wrap_u64]; omega
theorem ones64_any (x : Nat) (w : World) (hx : x < 18446744073709551616) :
    Calls Tryd.prog 22 #[.int .u64 (x : Int)] w fun e w' => e = .returned (.int .i64 ((pcF x 64 : Nat) : Int)) ∧ w = w' := by
  obtain ⟨x1, x2, x3, x4, x5, x6, e1, e2, e3, e4, e5, e6, hm, hl⟩ := steps x hx
  have HM := Lib.hid hm
  have HL := Lib.hid hl
  clear hx hm hl
  go_enter Tryd.func22, Tryd.ntmps22
  go_wp2
  go_ret
  refine ⟨?_, rfl⟩
  have h1 := HL.out
  have h2 := HM.out
  rw [show wrap64 (x6 : Int) = (x6 : Int) from by rw [wrap64_def]; omega, i64_and127, ← h2]
  rfl
end Go.Proofs.YtbgcafkdojoilaaDoor.Num
