/-
  trammellaw03.NumDivides answers true for every two numbers. Condition: 'Does T', and T holds of the world.
-/
import Derived.Test.YtbgcafkdojoilaaDoorNumLawsLaw
import Derived.Test.YtbgcafkdojoilaaDoorNumDivLaw
namespace Go.Proofs.YtbgcafkdojoilaaDoor.Num
open Go.RowKit

/-- Row 0: what the four calls answer. -/
theorem row_0 (a b : Nat) :
    (∃ q r, binAll 109 a b = (q, 6, true) ∧ binAll 111 a b = (r, 6, true)) ∨
    (∃ q, binAll 109 a b = (q, 7, true) ∧ binAll 111 a b = (0, 0, true)) ∨
    ∃ q r x, binAll 109 a b = (q, 0, true) ∧ binAll 111 a b = (r, 0, true) ∧ q < 4294967296 ∧ r < 4294967296 ∧ x < 4294967296 ∧ binAll 108 q b = (x, 0, true) ∧ binAll 106 x r = (cutN a 32, 0, true) := by
  have hA : cutN a 32 < 4294967296 := cut_lt a 32
  have hB : cutN b 32 < 4294967296 := cut_lt b 32
  have e1 : binAll 109 a b = ((quotN (cutN a 32) (cutN b 32) 32 true).1, (quotN (cutN a 32) (cutN b 32) 32 true).2.2.1, true) := rfl
  have e2 : binAll 111 a b = ((quotN (cutN a 32) (cutN b 32) 32 true).2.1, (quotN (cutN a 32) (cutN b 32) 32 true).2.2.2, true) := rfl
  have e3 : ∀ q, binAll 108 q b = (cutN (cutN q 32 * cutN b 32) 32, 0, true) := fun _ => rfl
  have e4 : ∀ x r, binAll 106 x r = (cutN (cutN x 32 + cutN r 32) 32, 0, true) := fun _ _ => rfl
  have h := quot3_32 (cutN a 32) (cutN b 32) true hA hB
  rw [e1, e2]
  generalize (quotN (cutN a 32) (cutN b 32) 32 true).1 = q at *
  generalize (quotN (cutN a 32) (cutN b 32) 32 true).2.1 = r at *
  generalize (quotN (cutN a 32) (cutN b 32) 32 true).2.2.1 = t at *
  generalize (quotN (cutN a 32) (cutN b 32) 32 true).2.2.2 = u at *
  rcases h with ⟨h1, h2⟩ | ⟨h1, h2, h3⟩ | ⟨h1, h2, h3, h4, h5, h6⟩
  · subst h1; subst h2; exact .inl ⟨q, r, rfl, rfl⟩
  · subst h1; subst h2; subst h3; exact .inr (.inl ⟨q, rfl, rfl⟩)
  · subst h1; subst h2
    have hx : cutN (cutN q 32 * cutN b 32) 32 < 4294967296 := cut_lt _ 32
    refine .inr (.inr ⟨q, r, _, rfl, rfl, h3, h4, hx, e3 q, ?_⟩)
    rw [e4]
    have hc : ∀ n, n < 4294967296 → cutN n 32 = n := fun n hn => Nat.mod_eq_of_lt hn
    rw [hc _ hx, hc r h4, hc q h3]
    have e5 : cutN (cutN (q * cutN b 32) 32 + r) 32 = cutN a 32 := by
      show ((q * cutN b 32) % 2 ^ 32 + r) % 2 ^ 32 = cutN a 32
      rw [Nat.mod_add_mod]
      exact h5
    rw [e5]
/-- Row 1: what the four calls answer. -/
theorem row_1 (a b : Nat) :
    (∃ q r, binAll 110 a b = (q, 6, true) ∧ binAll 112 a b = (r, 6, true)) ∨
    (∃ q, binAll 110 a b = (q, 7, true) ∧ binAll 112 a b = (0, 0, true)) ∨
    ∃ q r x, binAll 110 a b = (q, 0, true) ∧ binAll 112 a b = (r, 0, true) ∧ q < 4294967296 ∧ r < 4294967296 ∧ x < 4294967296 ∧ binAll 108 q b = (x, 0, true) ∧ binAll 106 x r = (cutN a 32, 0, true) ∧ r < cutN b 32 := by
  have hA : cutN a 32 < 4294967296 := cut_lt a 32
  have hB : cutN b 32 < 4294967296 := cut_lt b 32
  have e1 : binAll 110 a b = ((quotN (cutN a 32) (cutN b 32) 32 false).1, (quotN (cutN a 32) (cutN b 32) 32 false).2.2.1, true) := rfl
  have e2 : binAll 112 a b = ((quotN (cutN a 32) (cutN b 32) 32 false).2.1, (quotN (cutN a 32) (cutN b 32) 32 false).2.2.2, true) := rfl
  have e3 : ∀ q, binAll 108 q b = (cutN (cutN q 32 * cutN b 32) 32, 0, true) := fun _ => rfl
  have e4 : ∀ x r, binAll 106 x r = (cutN (cutN x 32 + cutN r 32) 32, 0, true) := fun _ _ => rfl
  have h := quot3_32 (cutN a 32) (cutN b 32) false hA hB
  rw [e1, e2]
  generalize (quotN (cutN a 32) (cutN b 32) 32 false).1 = q at *
  generalize (quotN (cutN a 32) (cutN b 32) 32 false).2.1 = r at *
  generalize (quotN (cutN a 32) (cutN b 32) 32 false).2.2.1 = t at *
  generalize (quotN (cutN a 32) (cutN b 32) 32 false).2.2.2 = u at *
  rcases h with ⟨h1, h2⟩ | ⟨h1, h2, h3⟩ | ⟨h1, h2, h3, h4, h5, h6⟩
  · subst h1; subst h2; exact .inl ⟨q, r, rfl, rfl⟩
  · subst h1; subst h2; subst h3; exact .inr (.inl ⟨q, rfl, rfl⟩)
  · subst h1; subst h2
    have hx : cutN (cutN q 32 * cutN b 32) 32 < 4294967296 := cut_lt _ 32
    refine .inr (.inr ⟨q, r, _, rfl, rfl, h3, h4, hx, e3 q, ?_, h6 rfl⟩)
    rw [e4]
    have hc : ∀ n, n < 4294967296 → cutN n 32 = n := fun n hn => Nat.mod_eq_of_lt hn
    rw [hc _ hx, hc r h4, hc q h3]
    have e5 : cutN (cutN (q * cutN b 32) 32 + r) 32 = cutN a 32 := by
      show ((q * cutN b 32) % 2 ^ 32 + r) % 2 ^ 32 = cutN a 32
      rw [Nat.mod_add_mod]
      exact h5
    rw [e5]
/-- Row 2: what the four calls answer. -/
theorem row_2 (a b : Nat) :
    (∃ q r, binAll 127 a b = (q, 6, true) ∧ binAll 129 a b = (r, 6, true)) ∨
    (∃ q, binAll 127 a b = (q, 7, true) ∧ binAll 129 a b = (0, 0, true)) ∨
    ∃ q r x, binAll 127 a b = (q, 0, true) ∧ binAll 129 a b = (r, 0, true) ∧ q < 18446744073709551616 ∧ r < 18446744073709551616 ∧ x < 18446744073709551616 ∧ binAll 126 q b = (x, 0, true) ∧ binAll 124 x r = (cutN a 64, 0, true) := by
  have hA : cutN a 64 < 18446744073709551616 := cut_lt a 64
  have hB : cutN b 64 < 18446744073709551616 := cut_lt b 64
  have e1 : binAll 127 a b = ((quotN (cutN a 64) (cutN b 64) 64 true).1, (quotN (cutN a 64) (cutN b 64) 64 true).2.2.1, true) := rfl
  have e2 : binAll 129 a b = ((quotN (cutN a 64) (cutN b 64) 64 true).2.1, (quotN (cutN a 64) (cutN b 64) 64 true).2.2.2, true) := rfl
  have e3 : ∀ q, binAll 126 q b = (cutN (cutN q 64 * cutN b 64) 64, 0, true) := fun _ => rfl
  have e4 : ∀ x r, binAll 124 x r = (cutN (cutN x 64 + cutN r 64) 64, 0, true) := fun _ _ => rfl
  have h := quot3_64 (cutN a 64) (cutN b 64) true hA hB
  rw [e1, e2]
  generalize (quotN (cutN a 64) (cutN b 64) 64 true).1 = q at *
  generalize (quotN (cutN a 64) (cutN b 64) 64 true).2.1 = r at *
  generalize (quotN (cutN a 64) (cutN b 64) 64 true).2.2.1 = t at *
  generalize (quotN (cutN a 64) (cutN b 64) 64 true).2.2.2 = u at *
  rcases h with ⟨h1, h2⟩ | ⟨h1, h2, h3⟩ | ⟨h1, h2, h3, h4, h5, h6⟩
  · subst h1; subst h2; exact .inl ⟨q, r, rfl, rfl⟩
  · subst h1; subst h2; subst h3; exact .inr (.inl ⟨q, rfl, rfl⟩)
  · subst h1; subst h2
    have hx : cutN (cutN q 64 * cutN b 64) 64 < 18446744073709551616 := cut_lt _ 64
    refine .inr (.inr ⟨q, r, _, rfl, rfl, h3, h4, hx, e3 q, ?_⟩)
    rw [e4]
    have hc : ∀ n, n < 18446744073709551616 → cutN n 64 = n := fun n hn => Nat.mod_eq_of_lt hn
    rw [hc _ hx, hc r h4, hc q h3]
    have e5 : cutN (cutN (q * cutN b 64) 64 + r) 64 = cutN a 64 := by
      show ((q * cutN b 64) % 2 ^ 64 + r) % 2 ^ 64 = cutN a 64
      rw [Nat.mod_add_mod]
      exact h5
    rw [e5]
/-- Row 3: what the four calls answer. -/
theorem row_3 (a b : Nat) :
    (∃ q r, binAll 128 a b = (q, 6, true) ∧ binAll 130 a b = (r, 6, true)) ∨
    (∃ q, binAll 128 a b = (q, 7, true) ∧ binAll 130 a b = (0, 0, true)) ∨
    ∃ q r x, binAll 128 a b = (q, 0, true) ∧ binAll 130 a b = (r, 0, true) ∧ q < 18446744073709551616 ∧ r < 18446744073709551616 ∧ x < 18446744073709551616 ∧ binAll 126 q b = (x, 0, true) ∧ binAll 124 x r = (cutN a 64, 0, true) ∧ r < cutN b 64 := by
  have hA : cutN a 64 < 18446744073709551616 := cut_lt a 64
  have hB : cutN b 64 < 18446744073709551616 := cut_lt b 64
  have e1 : binAll 128 a b = ((quotN (cutN a 64) (cutN b 64) 64 false).1, (quotN (cutN a 64) (cutN b 64) 64 false).2.2.1, true) := rfl
  have e2 : binAll 130 a b = ((quotN (cutN a 64) (cutN b 64) 64 false).2.1, (quotN (cutN a 64) (cutN b 64) 64 false).2.2.2, true) := rfl
  have e3 : ∀ q, binAll 126 q b = (cutN (cutN q 64 * cutN b 64) 64, 0, true) := fun _ => rfl
  have e4 : ∀ x r, binAll 124 x r = (cutN (cutN x 64 + cutN r 64) 64, 0, true) := fun _ _ => rfl
  have h := quot3_64 (cutN a 64) (cutN b 64) false hA hB
  rw [e1, e2]
  generalize (quotN (cutN a 64) (cutN b 64) 64 false).1 = q at *
  generalize (quotN (cutN a 64) (cutN b 64) 64 false).2.1 = r at *
  generalize (quotN (cutN a 64) (cutN b 64) 64 false).2.2.1 = t at *
  generalize (quotN (cutN a 64) (cutN b 64) 64 false).2.2.2 = u at *
  rcases h with ⟨h1, h2⟩ | ⟨h1, h2, h3⟩ | ⟨h1, h2, h3, h4, h5, h6⟩
  · subst h1; subst h2; exact .inl ⟨q, r, rfl, rfl⟩
  · subst h1; subst h2; subst h3; exact .inr (.inl ⟨q, rfl, rfl⟩)
  · subst h1; subst h2
    have hx : cutN (cutN q 64 * cutN b 64) 64 < 18446744073709551616 := cut_lt _ 64
    refine .inr (.inr ⟨q, r, _, rfl, rfl, h3, h4, hx, e3 q, ?_, h6 rfl⟩)
    rw [e4]
    have hc : ∀ n, n < 18446744073709551616 → cutN n 64 = n := fun n hn => Nat.mod_eq_of_lt hn
    rw [hc _ hx, hc r h4, hc q h3]
    have e5 : cutN (cutN (q * cutN b 64) 64 + r) 64 = cutN a 64 := by
      show ((q * cutN b 64) % 2 ^ 64 + r) % 2 ^ 64 = cutN a 64
      rw [Nat.mod_add_mod]
      exact h5
    rw [e5]
theorem and_low (b r : Nat) (hb : b < 18446744073709551616) (h : r < cutN b 32) : decide (bits .and .u64 (b : Int) 4294967295 ≤ (r : Int)) = false := by
  have e : bits .and .u64 (b : Int) 4294967295 = ((b % 4294967296 : Nat) : Int) := by
    rw [show (4294967295 : Int) = ((4294967295 : Nat) : Int) from rfl, u64_and_nat b 4294967295 hb (by omega)]
    rw [show b &&& 4294967295 = b % 4294967296 from Nat.and_two_pow_sub_one_eq_mod b 32]
  have h2 : r < b % 4294967296 := h
  rw [e]
  simp
  omega
section
variable {T : World → Prop} (D : Does T)
include D
set_option maxHeartbeats 8000000 in
set_option maxRecDepth 100000 in
theorem divides_law (a b : Nat) (w : World) (hT : T w) (ha : a < 18446744073709551616) (hb : b < 18446744073709551616) :
    Calls Tryd.prog 6 #[.int .u64 (a : Int), .int .u64 (b : Int)] w fun e w' => e = .returned (.bool true) ∧ Below w.heap.size w w' := by
  have HA := Lib.hid (awake_any D w hT)
  have HK := Lib.hid D.keep
  have HD := Lib.hid D
  have HAB := Lib.hid (And.intro ha hb)
  clear D ha hb
  go_enter Tryd.func6, Tryd.ntmps6
  go_wp2_with (go_at_call 9; refine HA.out.mono ?_; rintro e w1 ⟨rfl, hb1⟩)
  have hT1 := HK.out _ _ hT hb1
  have hal : Below w1.heap.size w1 (w1.alloc (.cells #[.int .i64 109, .int .i64 111, .int .i64 108, .int .i64 106, .int .i64 110, .int .i64 112, .int .i64 108, .int .i64 106, .int .i64 127, .int .i64 129, .int .i64 126, .int .i64 124, .int .i64 128, .int .i64 130, .int .i64 126, .int .i64 124] 37)) := (Below.refl _ _).alloc (Nat.le_refl _) _
  have C0 := Lib.hid (show (w1.alloc (.cells #[.int .i64 109, .int .i64 111, .int .i64 108, .int .i64 106, .int .i64 110, .int .i64 112, .int .i64 108, .int .i64 106, .int .i64 127, .int .i64 129, .int .i64 126, .int .i64 124, .int .i64 128, .int .i64 130, .int .i64 126, .int .i64 124] 37)).cell? ⟨w1.heap.size, 0, none⟩ = some (.int .i64 109) from by simp)
  have C1 := Lib.hid (show (w1.alloc (.cells #[.int .i64 109, .int .i64 111, .int .i64 108, .int .i64 106, .int .i64 110, .int .i64 112, .int .i64 108, .int .i64 106, .int .i64 127, .int .i64 129, .int .i64 126, .int .i64 124, .int .i64 128, .int .i64 130, .int .i64 126, .int .i64 124] 37)).cell? ⟨w1.heap.size, 1, none⟩ = some (.int .i64 111) from by simp)
  have C2 := Lib.hid (show (w1.alloc (.cells #[.int .i64 109, .int .i64 111, .int .i64 108, .int .i64 106, .int .i64 110, .int .i64 112, .int .i64 108, .int .i64 106, .int .i64 127, .int .i64 129, .int .i64 126, .int .i64 124, .int .i64 128, .int .i64 130, .int .i64 126, .int .i64 124] 37)).cell? ⟨w1.heap.size, 2, none⟩ = some (.int .i64 108) from by simp)
  have C3 := Lib.hid (show (w1.alloc (.cells #[.int .i64 109, .int .i64 111, .int .i64 108, .int .i64 106, .int .i64 110, .int .i64 112, .int .i64 108, .int .i64 106, .int .i64 127, .int .i64 129, .int .i64 126, .int .i64 124, .int .i64 128, .int .i64 130, .int .i64 126, .int .i64 124] 37)).cell? ⟨w1.heap.size, 3, none⟩ = some (.int .i64 106) from by simp)
  have C4 := Lib.hid (show (w1.alloc (.cells #[.int .i64 109, .int .i64 111, .int .i64 108, .int .i64 106, .int .i64 110, .int .i64 112, .int .i64 108, .int .i64 106, .int .i64 127, .int .i64 129, .int .i64 126, .int .i64 124, .int .i64 128, .int .i64 130, .int .i64 126, .int .i64 124] 37)).cell? ⟨w1.heap.size, 4, none⟩ = some (.int .i64 110) from by simp)
  have C5 := Lib.hid (show (w1.alloc (.cells #[.int .i64 109, .int .i64 111, .int .i64 108, .int .i64 106, .int .i64 110, .int .i64 112, .int .i64 108, .int .i64 106, .int .i64 127, .int .i64 129, .int .i64 126, .int .i64 124, .int .i64 128, .int .i64 130, .int .i64 126, .int .i64 124] 37)).cell? ⟨w1.heap.size, 5, none⟩ = some (.int .i64 112) from by simp)
  have C6 := Lib.hid (show (w1.alloc (.cells #[.int .i64 109, .int .i64 111, .int .i64 108, .int .i64 106, .int .i64 110, .int .i64 112, .int .i64 108, .int .i64 106, .int .i64 127, .int .i64 129, .int .i64 126, .int .i64 124, .int .i64 128, .int .i64 130, .int .i64 126, .int .i64 124] 37)).cell? ⟨w1.heap.size, 6, none⟩ = some (.int .i64 108) from by simp)
  have C7 := Lib.hid (show (w1.alloc (.cells #[.int .i64 109, .int .i64 111, .int .i64 108, .int .i64 106, .int .i64 110, .int .i64 112, .int .i64 108, .int .i64 106, .int .i64 127, .int .i64 129, .int .i64 126, .int .i64 124, .int .i64 128, .int .i64 130, .int .i64 126, .int .i64 124] 37)).cell? ⟨w1.heap.size, 7, none⟩ = some (.int .i64 106) from by simp)
  have C8 := Lib.hid (show (w1.alloc (.cells #[.int .i64 109, .int .i64 111, .int .i64 108, .int .i64 106, .int .i64 110, .int .i64 112, .int .i64 108, .int .i64 106, .int .i64 127, .int .i64 129, .int .i64 126, .int .i64 124, .int .i64 128, .int .i64 130, .int .i64 126, .int .i64 124] 37)).cell? ⟨w1.heap.size, 8, none⟩ = some (.int .i64 127) from by simp)
  have C9 := Lib.hid (show (w1.alloc (.cells #[.int .i64 109, .int .i64 111, .int .i64 108, .int .i64 106, .int .i64 110, .int .i64 112, .int .i64 108, .int .i64 106, .int .i64 127, .int .i64 129, .int .i64 126, .int .i64 124, .int .i64 128, .int .i64 130, .int .i64 126, .int .i64 124] 37)).cell? ⟨w1.heap.size, 9, none⟩ = some (.int .i64 129) from by simp)
  have C10 := Lib.hid (show (w1.alloc (.cells #[.int .i64 109, .int .i64 111, .int .i64 108, .int .i64 106, .int .i64 110, .int .i64 112, .int .i64 108, .int .i64 106, .int .i64 127, .int .i64 129, .int .i64 126, .int .i64 124, .int .i64 128, .int .i64 130, .int .i64 126, .int .i64 124] 37)).cell? ⟨w1.heap.size, 10, none⟩ = some (.int .i64 126) from by simp)
  have C11 := Lib.hid (show (w1.alloc (.cells #[.int .i64 109, .int .i64 111, .int .i64 108, .int .i64 106, .int .i64 110, .int .i64 112, .int .i64 108, .int .i64 106, .int .i64 127, .int .i64 129, .int .i64 126, .int .i64 124, .int .i64 128, .int .i64 130, .int .i64 126, .int .i64 124] 37)).cell? ⟨w1.heap.size, 11, none⟩ = some (.int .i64 124) from by simp)
  have C12 := Lib.hid (show (w1.alloc (.cells #[.int .i64 109, .int .i64 111, .int .i64 108, .int .i64 106, .int .i64 110, .int .i64 112, .int .i64 108, .int .i64 106, .int .i64 127, .int .i64 129, .int .i64 126, .int .i64 124, .int .i64 128, .int .i64 130, .int .i64 126, .int .i64 124] 37)).cell? ⟨w1.heap.size, 12, none⟩ = some (.int .i64 128) from by simp)
  have C13 := Lib.hid (show (w1.alloc (.cells #[.int .i64 109, .int .i64 111, .int .i64 108, .int .i64 106, .int .i64 110, .int .i64 112, .int .i64 108, .int .i64 106, .int .i64 127, .int .i64 129, .int .i64 126, .int .i64 124, .int .i64 128, .int .i64 130, .int .i64 126, .int .i64 124] 37)).cell? ⟨w1.heap.size, 13, none⟩ = some (.int .i64 130) from by simp)
  have C14 := Lib.hid (show (w1.alloc (.cells #[.int .i64 109, .int .i64 111, .int .i64 108, .int .i64 106, .int .i64 110, .int .i64 112, .int .i64 108, .int .i64 106, .int .i64 127, .int .i64 129, .int .i64 126, .int .i64 124, .int .i64 128, .int .i64 130, .int .i64 126, .int .i64 124] 37)).cell? ⟨w1.heap.size, 14, none⟩ = some (.int .i64 126) from by simp)
  have C15 := Lib.hid (show (w1.alloc (.cells #[.int .i64 109, .int .i64 111, .int .i64 108, .int .i64 106, .int .i64 110, .int .i64 112, .int .i64 108, .int .i64 106, .int .i64 127, .int .i64 129, .int .i64 126, .int .i64 124, .int .i64 128, .int .i64 130, .int .i64 126, .int .i64 124] 37)).cell? ⟨w1.heap.size, 15, none⟩ = some (.int .i64 124) from by simp)
  have hT2 := HK.out _ _ hT1 hal
  have hb2 := hb1.trans (hal.mono hb1.size)
  have hsz : (w1.alloc (.cells #[.int .i64 109, .int .i64 111, .int .i64 108, .int .i64 106, .int .i64 110, .int .i64 112, .int .i64 108, .int .i64 106, .int .i64 127, .int .i64 129, .int .i64 126, .int .i64 124, .int .i64 128, .int .i64 130, .int .i64 126, .int .i64 124] 37)).heap.size = w1.heap.size + 1 := by simp
  have HSZ := Lib.hid hsz
  clear hal hb1 hT1 hsz HA
  generalize w1.alloc _ = W0 at *
  generalize w1.heap.size = B at *
  go_loopw [27] (fun i wr => ∃ j : Nat, j ≤ 4 ∧ i = .int .i64 (j : Int) ∧ Below W0.heap.size W0 wr ∧ T wr) (fun i _ => 4 - (intOf i).toNat)
  case atStart => exact ⟨0, by omega, rfl, Below.refl _ _, hT2⟩
  case round =>
    obtain ⟨j, hj, rfl, hbr, hTr⟩ := hrel
    clear hT2
    by_cases hlt : j < 4
    · have hjj : j = 0 ∨ j = 1 ∨ j = 2 ∨ j = 3 := by omega
      clear hlt hj
      rcases hjj with rfl | rfl | rfl | rfl
      · rw [show (((0 : Nat) : Int)) = 0 from rfl]
        have h0 : wr.cell? ⟨B, 0, none⟩ = some (.int .i64 109) := (hbr.cell (p := ⟨B, 0, none⟩) (by show B < _; rw [HSZ.out]; omega)).trans C0.out
        have h1 : wr.cell? ⟨B, 1, none⟩ = some (.int .i64 111) := (hbr.cell (p := ⟨B, 1, none⟩) (by show B < _; rw [HSZ.out]; omega)).trans C1.out
        have h2 : wr.cell? ⟨B, 2, none⟩ = some (.int .i64 108) := (hbr.cell (p := ⟨B, 2, none⟩) (by show B < _; rw [HSZ.out]; omega)).trans C2.out
        have h3 : wr.cell? ⟨B, 3, none⟩ = some (.int .i64 106) := (hbr.cell (p := ⟨B, 3, none⟩) (by show B < _; rw [HSZ.out]; omega)).trans C3.out
        have hba : Below wr.heap.size wr (wr.alloc (.cells #[.int .i64 109, .int .i64 111, .int .i64 108, .int .i64 106] 37)) := (Below.refl _ _).alloc (Nat.le_refl _) _
        have hTa := HK.out _ _ hTr hba
        rcases row_0 a b with ⟨q, r, hq, hr⟩ | ⟨q, hq, hr⟩ | ⟨q, r, x, hq, hr, hql, hrl, hxl, hx, hy⟩
        · have HQ := Lib.hid (fun W hW => bin_is HD.out W hW (i64 109 (by omega) (by omega)) HAB.out.1 HAB.out.2 hq)
          have HR := Lib.hid (fun W hW => bin_is HD.out W hW (i64 111 (by omega) (by omega)) HAB.out.1 HAB.out.2 hr)
          clear hq hr
          go_wp2_with fail
          refine (HQ.out _ hTa).mono ?_
          rintro e wA ⟨rfl, hbA⟩
          have c0 : wA.cell? ⟨wr.heap.size, 0, none⟩ = some (.int .i64 109) := (hbA.cell (p := ⟨wr.heap.size, 0, none⟩) (by simp)).trans (by simp)
          have c1 : wA.cell? ⟨wr.heap.size, 1, none⟩ = some (.int .i64 111) := (hbA.cell (p := ⟨wr.heap.size, 1, none⟩) (by simp)).trans (by simp)
          have c2 : wA.cell? ⟨wr.heap.size, 2, none⟩ = some (.int .i64 108) := (hbA.cell (p := ⟨wr.heap.size, 2, none⟩) (by simp)).trans (by simp)
          have c3 : wA.cell? ⟨wr.heap.size, 3, none⟩ = some (.int .i64 106) := (hbA.cell (p := ⟨wr.heap.size, 3, none⟩) (by simp)).trans (by simp)
          have hTA := HK.out _ _ hTa hbA
          have hbB := hba.trans (hbA.mono hba.size)
          clear hTa hba hbA HQ h0 h1 h2 h3
          have hlA : wr.heap.size < wA.heap.size := by have := hbB.size; have := c0; exact World.block_lt_of_cell? wA _ c0
          go_wp2_with fail
          refine (HR.out _ hTA).mono ?_
          rintro e wC ⟨rfl, hbC⟩
          have d0 := (hbC.cell (p := ⟨wr.heap.size, 0, none⟩) hlA).trans c0
          have d1 := (hbC.cell (p := ⟨wr.heap.size, 1, none⟩) hlA).trans c1
          have d2 := (hbC.cell (p := ⟨wr.heap.size, 2, none⟩) hlA).trans c2
          have d3 := (hbC.cell (p := ⟨wr.heap.size, 3, none⟩) hlA).trans c3
          have hTC := HK.out _ _ hTA hbC
          have hbD := hbB.trans (hbC.mono hbB.size)
          have hlC : wr.heap.size < wC.heap.size := Nat.lt_of_lt_of_le hlA hbC.size
          clear hTA hbB hbC HR c0 c1 c2 c3 hlA
          go_wp2
          go_roundw
          case rel => exact ⟨1, by omega, rfl, hbr.trans (hbD.mono hbr.size), hTC⟩
          case measure => simp [intOf]
        · have HQ := Lib.hid (fun W hW => bin_is HD.out W hW (i64 109 (by omega) (by omega)) HAB.out.1 HAB.out.2 hq)
          have HR := Lib.hid (fun W hW => bin_is HD.out W hW (i64 111 (by omega) (by omega)) HAB.out.1 HAB.out.2 hr)
          clear hq hr
          go_wp2_with fail
          refine (HQ.out _ hTa).mono ?_
          rintro e wA ⟨rfl, hbA⟩
          have c0 : wA.cell? ⟨wr.heap.size, 0, none⟩ = some (.int .i64 109) := (hbA.cell (p := ⟨wr.heap.size, 0, none⟩) (by simp)).trans (by simp)
          have c1 : wA.cell? ⟨wr.heap.size, 1, none⟩ = some (.int .i64 111) := (hbA.cell (p := ⟨wr.heap.size, 1, none⟩) (by simp)).trans (by simp)
          have c2 : wA.cell? ⟨wr.heap.size, 2, none⟩ = some (.int .i64 108) := (hbA.cell (p := ⟨wr.heap.size, 2, none⟩) (by simp)).trans (by simp)
          have c3 : wA.cell? ⟨wr.heap.size, 3, none⟩ = some (.int .i64 106) := (hbA.cell (p := ⟨wr.heap.size, 3, none⟩) (by simp)).trans (by simp)
          have hTA := HK.out _ _ hTa hbA
          have hbB := hba.trans (hbA.mono hba.size)
          clear hTa hba hbA HQ h0 h1 h2 h3
          have hlA : wr.heap.size < wA.heap.size := by have := hbB.size; have := c0; exact World.block_lt_of_cell? wA _ c0
          go_wp2_with fail
          refine (HR.out _ hTA).mono ?_
          rintro e wC ⟨rfl, hbC⟩
          have d0 := (hbC.cell (p := ⟨wr.heap.size, 0, none⟩) hlA).trans c0
          have d1 := (hbC.cell (p := ⟨wr.heap.size, 1, none⟩) hlA).trans c1
          have d2 := (hbC.cell (p := ⟨wr.heap.size, 2, none⟩) hlA).trans c2
          have d3 := (hbC.cell (p := ⟨wr.heap.size, 3, none⟩) hlA).trans c3
          have hTC := HK.out _ _ hTA hbC
          have hbD := hbB.trans (hbC.mono hbB.size)
          have hlC : wr.heap.size < wC.heap.size := Nat.lt_of_lt_of_le hlA hbC.size
          clear hTA hbB hbC HR c0 c1 c2 c3 hlA
          go_wp2
          go_roundw
          case rel => exact ⟨1, by omega, rfl, hbr.trans (hbD.mono hbr.size), hTC⟩
          case measure => simp [intOf]
        · have HQ := Lib.hid (fun W hW => bin_is HD.out W hW (i64 109 (by omega) (by omega)) HAB.out.1 HAB.out.2 hq)
          have HR := Lib.hid (fun W hW => bin_is HD.out W hW (i64 111 (by omega) (by omega)) HAB.out.1 HAB.out.2 hr)
          have HX := Lib.hid (fun W hW => bin_is HD.out W hW (i64 108 (by omega) (by omega)) (by omega) HAB.out.2 hx)
          have HY := Lib.hid (fun W hW => bin_is HD.out W hW (i64 106 (by omega) (by omega)) (by omega) (by omega) hy)
          have HCUT : Hid (cutN a 32 = a % 4294967296) := Lib.hid rfl
          clear hql hrl hxl hx hy
          clear hq hr
          go_wp2_with fail
          refine (HQ.out _ hTa).mono ?_
          rintro e wA ⟨rfl, hbA⟩
          have c0 : wA.cell? ⟨wr.heap.size, 0, none⟩ = some (.int .i64 109) := (hbA.cell (p := ⟨wr.heap.size, 0, none⟩) (by simp)).trans (by simp)
          have c1 : wA.cell? ⟨wr.heap.size, 1, none⟩ = some (.int .i64 111) := (hbA.cell (p := ⟨wr.heap.size, 1, none⟩) (by simp)).trans (by simp)
          have c2 : wA.cell? ⟨wr.heap.size, 2, none⟩ = some (.int .i64 108) := (hbA.cell (p := ⟨wr.heap.size, 2, none⟩) (by simp)).trans (by simp)
          have c3 : wA.cell? ⟨wr.heap.size, 3, none⟩ = some (.int .i64 106) := (hbA.cell (p := ⟨wr.heap.size, 3, none⟩) (by simp)).trans (by simp)
          have hTA := HK.out _ _ hTa hbA
          have hbB := hba.trans (hbA.mono hba.size)
          clear hTa hba hbA HQ h0 h1 h2 h3
          have hlA : wr.heap.size < wA.heap.size := by have := hbB.size; have := c0; exact World.block_lt_of_cell? wA _ c0
          go_wp2_with fail
          refine (HR.out _ hTA).mono ?_
          rintro e wC ⟨rfl, hbC⟩
          have d0 := (hbC.cell (p := ⟨wr.heap.size, 0, none⟩) hlA).trans c0
          have d1 := (hbC.cell (p := ⟨wr.heap.size, 1, none⟩) hlA).trans c1
          have d2 := (hbC.cell (p := ⟨wr.heap.size, 2, none⟩) hlA).trans c2
          have d3 := (hbC.cell (p := ⟨wr.heap.size, 3, none⟩) hlA).trans c3
          have hTC := HK.out _ _ hTA hbC
          have hbD := hbB.trans (hbC.mono hbB.size)
          have hlC : wr.heap.size < wC.heap.size := Nat.lt_of_lt_of_le hlA hbC.size
          clear hTA hbB hbC HR c0 c1 c2 c3 hlA
          go_wp2_with fail
          refine (HX.out _ hTC).mono ?_
          rintro e wE ⟨rfl, hbE⟩
          have e0 := (hbE.cell (p := ⟨wr.heap.size, 0, none⟩) hlC).trans d0
          have e1 := (hbE.cell (p := ⟨wr.heap.size, 1, none⟩) hlC).trans d1
          have e2 := (hbE.cell (p := ⟨wr.heap.size, 2, none⟩) hlC).trans d2
          have e3 := (hbE.cell (p := ⟨wr.heap.size, 3, none⟩) hlC).trans d3
          have hTE := HK.out _ _ hTC hbE
          have hbF := hbD.trans (hbE.mono hbD.size)
          have hlE : wr.heap.size < wE.heap.size := Nat.lt_of_lt_of_le hlC hbE.size
          clear hTC hbD hbE HX d0 d1 d2 d3 hlC
          go_wp2_with fail
          refine (HY.out _ hTE).mono ?_
          rintro e wG ⟨rfl, hbG⟩
          have g0 := (hbG.cell (p := ⟨wr.heap.size, 0, none⟩) hlE).trans e0
          have g1 := (hbG.cell (p := ⟨wr.heap.size, 1, none⟩) hlE).trans e1
          have g2 := (hbG.cell (p := ⟨wr.heap.size, 2, none⟩) hlE).trans e2
          have g3 := (hbG.cell (p := ⟨wr.heap.size, 3, none⟩) hlE).trans e3
          have hTG := HK.out _ _ hTE hbG
          have hbH := hbF.trans (hbG.mono hbF.size)
          clear hTE hbF hbG HY e0 e1 e2 e3 hlE
          have hcut := HCUT.out
          rw [hcut]
          clear hcut HCUT
          go_wp2
          go_roundw
          case rel => exact ⟨1, by omega, rfl, hbr.trans (hbH.mono hbr.size), hTG⟩
          case measure => simp [intOf]
      · rw [show (((1 : Nat) : Int)) = 1 from rfl]
        have h0 : wr.cell? ⟨B, 4, none⟩ = some (.int .i64 110) := (hbr.cell (p := ⟨B, 4, none⟩) (by show B < _; rw [HSZ.out]; omega)).trans C4.out
        have h1 : wr.cell? ⟨B, 5, none⟩ = some (.int .i64 112) := (hbr.cell (p := ⟨B, 5, none⟩) (by show B < _; rw [HSZ.out]; omega)).trans C5.out
        have h2 : wr.cell? ⟨B, 6, none⟩ = some (.int .i64 108) := (hbr.cell (p := ⟨B, 6, none⟩) (by show B < _; rw [HSZ.out]; omega)).trans C6.out
        have h3 : wr.cell? ⟨B, 7, none⟩ = some (.int .i64 106) := (hbr.cell (p := ⟨B, 7, none⟩) (by show B < _; rw [HSZ.out]; omega)).trans C7.out
        have hba : Below wr.heap.size wr (wr.alloc (.cells #[.int .i64 110, .int .i64 112, .int .i64 108, .int .i64 106] 37)) := (Below.refl _ _).alloc (Nat.le_refl _) _
        have hTa := HK.out _ _ hTr hba
        rcases row_1 a b with ⟨q, r, hq, hr⟩ | ⟨q, hq, hr⟩ | ⟨q, r, x, hq, hr, hql, hrl, hxl, hx, hy, hrb⟩
        · have HQ := Lib.hid (fun W hW => bin_is HD.out W hW (i64 110 (by omega) (by omega)) HAB.out.1 HAB.out.2 hq)
          have HR := Lib.hid (fun W hW => bin_is HD.out W hW (i64 112 (by omega) (by omega)) HAB.out.1 HAB.out.2 hr)
          clear hq hr
          go_wp2_with fail
          refine (HQ.out _ hTa).mono ?_
          rintro e wA ⟨rfl, hbA⟩
          have c0 : wA.cell? ⟨wr.heap.size, 0, none⟩ = some (.int .i64 110) := (hbA.cell (p := ⟨wr.heap.size, 0, none⟩) (by simp)).trans (by simp)
          have c1 : wA.cell? ⟨wr.heap.size, 1, none⟩ = some (.int .i64 112) := (hbA.cell (p := ⟨wr.heap.size, 1, none⟩) (by simp)).trans (by simp)
          have c2 : wA.cell? ⟨wr.heap.size, 2, none⟩ = some (.int .i64 108) := (hbA.cell (p := ⟨wr.heap.size, 2, none⟩) (by simp)).trans (by simp)
          have c3 : wA.cell? ⟨wr.heap.size, 3, none⟩ = some (.int .i64 106) := (hbA.cell (p := ⟨wr.heap.size, 3, none⟩) (by simp)).trans (by simp)
          have hTA := HK.out _ _ hTa hbA
          have hbB := hba.trans (hbA.mono hba.size)
          clear hTa hba hbA HQ h0 h1 h2 h3
          have hlA : wr.heap.size < wA.heap.size := by have := hbB.size; have := c0; exact World.block_lt_of_cell? wA _ c0
          go_wp2_with fail
          refine (HR.out _ hTA).mono ?_
          rintro e wC ⟨rfl, hbC⟩
          have d0 := (hbC.cell (p := ⟨wr.heap.size, 0, none⟩) hlA).trans c0
          have d1 := (hbC.cell (p := ⟨wr.heap.size, 1, none⟩) hlA).trans c1
          have d2 := (hbC.cell (p := ⟨wr.heap.size, 2, none⟩) hlA).trans c2
          have d3 := (hbC.cell (p := ⟨wr.heap.size, 3, none⟩) hlA).trans c3
          have hTC := HK.out _ _ hTA hbC
          have hbD := hbB.trans (hbC.mono hbB.size)
          have hlC : wr.heap.size < wC.heap.size := Nat.lt_of_lt_of_le hlA hbC.size
          clear hTA hbB hbC HR c0 c1 c2 c3 hlA
          go_wp2
          go_roundw
          case rel => exact ⟨2, by omega, rfl, hbr.trans (hbD.mono hbr.size), hTC⟩
          case measure => simp [intOf]
        · have HQ := Lib.hid (fun W hW => bin_is HD.out W hW (i64 110 (by omega) (by omega)) HAB.out.1 HAB.out.2 hq)
          have HR := Lib.hid (fun W hW => bin_is HD.out W hW (i64 112 (by omega) (by omega)) HAB.out.1 HAB.out.2 hr)
          clear hq hr
          go_wp2_with fail
          refine (HQ.out _ hTa).mono ?_
          rintro e wA ⟨rfl, hbA⟩
          have c0 : wA.cell? ⟨wr.heap.size, 0, none⟩ = some (.int .i64 110) := (hbA.cell (p := ⟨wr.heap.size, 0, none⟩) (by simp)).trans (by simp)
          have c1 : wA.cell? ⟨wr.heap.size, 1, none⟩ = some (.int .i64 112) := (hbA.cell (p := ⟨wr.heap.size, 1, none⟩) (by simp)).trans (by simp)
          have c2 : wA.cell? ⟨wr.heap.size, 2, none⟩ = some (.int .i64 108) := (hbA.cell (p := ⟨wr.heap.size, 2, none⟩) (by simp)).trans (by simp)
          have c3 : wA.cell? ⟨wr.heap.size, 3, none⟩ = some (.int .i64 106) := (hbA.cell (p := ⟨wr.heap.size, 3, none⟩) (by simp)).trans (by simp)
          have hTA := HK.out _ _ hTa hbA
          have hbB := hba.trans (hbA.mono hba.size)
          clear hTa hba hbA HQ h0 h1 h2 h3
          have hlA : wr.heap.size < wA.heap.size := by have := hbB.size; have := c0; exact World.block_lt_of_cell? wA _ c0
          go_wp2_with fail
          refine (HR.out _ hTA).mono ?_
          rintro e wC ⟨rfl, hbC⟩
          have d0 := (hbC.cell (p := ⟨wr.heap.size, 0, none⟩) hlA).trans c0
          have d1 := (hbC.cell (p := ⟨wr.heap.size, 1, none⟩) hlA).trans c1
          have d2 := (hbC.cell (p := ⟨wr.heap.size, 2, none⟩) hlA).trans c2
          have d3 := (hbC.cell (p := ⟨wr.heap.size, 3, none⟩) hlA).trans c3
          have hTC := HK.out _ _ hTA hbC
          have hbD := hbB.trans (hbC.mono hbB.size)
          have hlC : wr.heap.size < wC.heap.size := Nat.lt_of_lt_of_le hlA hbC.size
          clear hTA hbB hbC HR c0 c1 c2 c3 hlA
          go_wp2
          go_roundw
          case rel => exact ⟨2, by omega, rfl, hbr.trans (hbD.mono hbr.size), hTC⟩
          case measure => simp [intOf]
        · have HQ := Lib.hid (fun W hW => bin_is HD.out W hW (i64 110 (by omega) (by omega)) HAB.out.1 HAB.out.2 hq)
          have HR := Lib.hid (fun W hW => bin_is HD.out W hW (i64 112 (by omega) (by omega)) HAB.out.1 HAB.out.2 hr)
          have HX := Lib.hid (fun W hW => bin_is HD.out W hW (i64 108 (by omega) (by omega)) (by omega) HAB.out.2 hx)
          have HY := Lib.hid (fun W hW => bin_is HD.out W hW (i64 106 (by omega) (by omega)) (by omega) (by omega) hy)
          have HCUT : Hid (cutN a 32 = a % 4294967296) := Lib.hid rfl
          have HRB := Lib.hid (and_low b r HAB.out.2 hrb)
          clear hql hrl hxl hx hy hrb
          clear hq hr
          go_wp2_with fail
          refine (HQ.out _ hTa).mono ?_
          rintro e wA ⟨rfl, hbA⟩
          have c0 : wA.cell? ⟨wr.heap.size, 0, none⟩ = some (.int .i64 110) := (hbA.cell (p := ⟨wr.heap.size, 0, none⟩) (by simp)).trans (by simp)
          have c1 : wA.cell? ⟨wr.heap.size, 1, none⟩ = some (.int .i64 112) := (hbA.cell (p := ⟨wr.heap.size, 1, none⟩) (by simp)).trans (by simp)
          have c2 : wA.cell? ⟨wr.heap.size, 2, none⟩ = some (.int .i64 108) := (hbA.cell (p := ⟨wr.heap.size, 2, none⟩) (by simp)).trans (by simp)
          have c3 : wA.cell? ⟨wr.heap.size, 3, none⟩ = some (.int .i64 106) := (hbA.cell (p := ⟨wr.heap.size, 3, none⟩) (by simp)).trans (by simp)
          have hTA := HK.out _ _ hTa hbA
          have hbB := hba.trans (hbA.mono hba.size)
          clear hTa hba hbA HQ h0 h1 h2 h3
          have hlA : wr.heap.size < wA.heap.size := by have := hbB.size; have := c0; exact World.block_lt_of_cell? wA _ c0
          go_wp2_with fail
          refine (HR.out _ hTA).mono ?_
          rintro e wC ⟨rfl, hbC⟩
          have d0 := (hbC.cell (p := ⟨wr.heap.size, 0, none⟩) hlA).trans c0
          have d1 := (hbC.cell (p := ⟨wr.heap.size, 1, none⟩) hlA).trans c1
          have d2 := (hbC.cell (p := ⟨wr.heap.size, 2, none⟩) hlA).trans c2
          have d3 := (hbC.cell (p := ⟨wr.heap.size, 3, none⟩) hlA).trans c3
          have hTC := HK.out _ _ hTA hbC
          have hbD := hbB.trans (hbC.mono hbB.size)
          have hlC : wr.heap.size < wC.heap.size := Nat.lt_of_lt_of_le hlA hbC.size
          clear hTA hbB hbC HR c0 c1 c2 c3 hlA
          go_wp2_with fail
          refine (HX.out _ hTC).mono ?_
          rintro e wE ⟨rfl, hbE⟩
          have e0 := (hbE.cell (p := ⟨wr.heap.size, 0, none⟩) hlC).trans d0
          have e1 := (hbE.cell (p := ⟨wr.heap.size, 1, none⟩) hlC).trans d1
          have e2 := (hbE.cell (p := ⟨wr.heap.size, 2, none⟩) hlC).trans d2
          have e3 := (hbE.cell (p := ⟨wr.heap.size, 3, none⟩) hlC).trans d3
          have hTE := HK.out _ _ hTC hbE
          have hbF := hbD.trans (hbE.mono hbD.size)
          have hlE : wr.heap.size < wE.heap.size := Nat.lt_of_lt_of_le hlC hbE.size
          clear hTC hbD hbE HX d0 d1 d2 d3 hlC
          go_wp2_with fail
          refine (HY.out _ hTE).mono ?_
          rintro e wG ⟨rfl, hbG⟩
          have g0 := (hbG.cell (p := ⟨wr.heap.size, 0, none⟩) hlE).trans e0
          have g1 := (hbG.cell (p := ⟨wr.heap.size, 1, none⟩) hlE).trans e1
          have g2 := (hbG.cell (p := ⟨wr.heap.size, 2, none⟩) hlE).trans e2
          have g3 := (hbG.cell (p := ⟨wr.heap.size, 3, none⟩) hlE).trans e3
          have hTG := HK.out _ _ hTE hbG
          have hbH := hbF.trans (hbG.mono hbF.size)
          clear hTE hbF hbG HY e0 e1 e2 e3 hlE
          have hcut := HCUT.out
          rw [hcut]
          clear hcut HCUT
          have hrd := HRB.out
          go_wp2
          go_roundw
          case rel => exact ⟨2, by omega, rfl, hbr.trans (hbH.mono hbr.size), hTG⟩
          case measure => simp [intOf]
      · rw [show (((2 : Nat) : Int)) = 2 from rfl]
        have h0 : wr.cell? ⟨B, 8, none⟩ = some (.int .i64 127) := (hbr.cell (p := ⟨B, 8, none⟩) (by show B < _; rw [HSZ.out]; omega)).trans C8.out
        have h1 : wr.cell? ⟨B, 9, none⟩ = some (.int .i64 129) := (hbr.cell (p := ⟨B, 9, none⟩) (by show B < _; rw [HSZ.out]; omega)).trans C9.out
        have h2 : wr.cell? ⟨B, 10, none⟩ = some (.int .i64 126) := (hbr.cell (p := ⟨B, 10, none⟩) (by show B < _; rw [HSZ.out]; omega)).trans C10.out
        have h3 : wr.cell? ⟨B, 11, none⟩ = some (.int .i64 124) := (hbr.cell (p := ⟨B, 11, none⟩) (by show B < _; rw [HSZ.out]; omega)).trans C11.out
        have hba : Below wr.heap.size wr (wr.alloc (.cells #[.int .i64 127, .int .i64 129, .int .i64 126, .int .i64 124] 37)) := (Below.refl _ _).alloc (Nat.le_refl _) _
        have hTa := HK.out _ _ hTr hba
        rcases row_2 a b with ⟨q, r, hq, hr⟩ | ⟨q, hq, hr⟩ | ⟨q, r, x, hq, hr, hql, hrl, hxl, hx, hy⟩
        · have HQ := Lib.hid (fun W hW => bin_is HD.out W hW (i64 127 (by omega) (by omega)) HAB.out.1 HAB.out.2 hq)
          have HR := Lib.hid (fun W hW => bin_is HD.out W hW (i64 129 (by omega) (by omega)) HAB.out.1 HAB.out.2 hr)
          clear hq hr
          go_wp2_with fail
          refine (HQ.out _ hTa).mono ?_
          rintro e wA ⟨rfl, hbA⟩
          have c0 : wA.cell? ⟨wr.heap.size, 0, none⟩ = some (.int .i64 127) := (hbA.cell (p := ⟨wr.heap.size, 0, none⟩) (by simp)).trans (by simp)
          have c1 : wA.cell? ⟨wr.heap.size, 1, none⟩ = some (.int .i64 129) := (hbA.cell (p := ⟨wr.heap.size, 1, none⟩) (by simp)).trans (by simp)
          have c2 : wA.cell? ⟨wr.heap.size, 2, none⟩ = some (.int .i64 126) := (hbA.cell (p := ⟨wr.heap.size, 2, none⟩) (by simp)).trans (by simp)
          have c3 : wA.cell? ⟨wr.heap.size, 3, none⟩ = some (.int .i64 124) := (hbA.cell (p := ⟨wr.heap.size, 3, none⟩) (by simp)).trans (by simp)
          have hTA := HK.out _ _ hTa hbA
          have hbB := hba.trans (hbA.mono hba.size)
          clear hTa hba hbA HQ h0 h1 h2 h3
          have hlA : wr.heap.size < wA.heap.size := by have := hbB.size; have := c0; exact World.block_lt_of_cell? wA _ c0
          go_wp2_with fail
          refine (HR.out _ hTA).mono ?_
          rintro e wC ⟨rfl, hbC⟩
          have d0 := (hbC.cell (p := ⟨wr.heap.size, 0, none⟩) hlA).trans c0
          have d1 := (hbC.cell (p := ⟨wr.heap.size, 1, none⟩) hlA).trans c1
          have d2 := (hbC.cell (p := ⟨wr.heap.size, 2, none⟩) hlA).trans c2
          have d3 := (hbC.cell (p := ⟨wr.heap.size, 3, none⟩) hlA).trans c3
          have hTC := HK.out _ _ hTA hbC
          have hbD := hbB.trans (hbC.mono hbB.size)
          have hlC : wr.heap.size < wC.heap.size := Nat.lt_of_lt_of_le hlA hbC.size
          clear hTA hbB hbC HR c0 c1 c2 c3 hlA
          go_wp2
          go_roundw
          case rel => exact ⟨3, by omega, rfl, hbr.trans (hbD.mono hbr.size), hTC⟩
          case measure => simp [intOf]
        · have HQ := Lib.hid (fun W hW => bin_is HD.out W hW (i64 127 (by omega) (by omega)) HAB.out.1 HAB.out.2 hq)
          have HR := Lib.hid (fun W hW => bin_is HD.out W hW (i64 129 (by omega) (by omega)) HAB.out.1 HAB.out.2 hr)
          clear hq hr
          go_wp2_with fail
          refine (HQ.out _ hTa).mono ?_
          rintro e wA ⟨rfl, hbA⟩
          have c0 : wA.cell? ⟨wr.heap.size, 0, none⟩ = some (.int .i64 127) := (hbA.cell (p := ⟨wr.heap.size, 0, none⟩) (by simp)).trans (by simp)
          have c1 : wA.cell? ⟨wr.heap.size, 1, none⟩ = some (.int .i64 129) := (hbA.cell (p := ⟨wr.heap.size, 1, none⟩) (by simp)).trans (by simp)
          have c2 : wA.cell? ⟨wr.heap.size, 2, none⟩ = some (.int .i64 126) := (hbA.cell (p := ⟨wr.heap.size, 2, none⟩) (by simp)).trans (by simp)
          have c3 : wA.cell? ⟨wr.heap.size, 3, none⟩ = some (.int .i64 124) := (hbA.cell (p := ⟨wr.heap.size, 3, none⟩) (by simp)).trans (by simp)
          have hTA := HK.out _ _ hTa hbA
          have hbB := hba.trans (hbA.mono hba.size)
          clear hTa hba hbA HQ h0 h1 h2 h3
          have hlA : wr.heap.size < wA.heap.size := by have := hbB.size; have := c0; exact World.block_lt_of_cell? wA _ c0
          go_wp2_with fail
          refine (HR.out _ hTA).mono ?_
          rintro e wC ⟨rfl, hbC⟩
          have d0 := (hbC.cell (p := ⟨wr.heap.size, 0, none⟩) hlA).trans c0
          have d1 := (hbC.cell (p := ⟨wr.heap.size, 1, none⟩) hlA).trans c1
          have d2 := (hbC.cell (p := ⟨wr.heap.size, 2, none⟩) hlA).trans c2
          have d3 := (hbC.cell (p := ⟨wr.heap.size, 3, none⟩) hlA).trans c3
          have hTC := HK.out _ _ hTA hbC
          have hbD := hbB.trans (hbC.mono hbB.size)
          have hlC : wr.heap.size < wC.heap.size := Nat.lt_of_lt_of_le hlA hbC.size
          clear hTA hbB hbC HR c0 c1 c2 c3 hlA
          go_wp2
          go_roundw
          case rel => exact ⟨3, by omega, rfl, hbr.trans (hbD.mono hbr.size), hTC⟩
          case measure => simp [intOf]
        · have HQ := Lib.hid (fun W hW => bin_is HD.out W hW (i64 127 (by omega) (by omega)) HAB.out.1 HAB.out.2 hq)
          have HR := Lib.hid (fun W hW => bin_is HD.out W hW (i64 129 (by omega) (by omega)) HAB.out.1 HAB.out.2 hr)
          have HX := Lib.hid (fun W hW => bin_is HD.out W hW (i64 126 (by omega) (by omega)) (by omega) HAB.out.2 hx)
          have HY := Lib.hid (fun W hW => bin_is HD.out W hW (i64 124 (by omega) (by omega)) (by omega) (by omega) hy)
          rw [show cutN a 64 = a from Nat.mod_eq_of_lt HAB.out.1] at HY
          clear hql hrl hxl hx hy
          clear hq hr
          go_wp2_with fail
          refine (HQ.out _ hTa).mono ?_
          rintro e wA ⟨rfl, hbA⟩
          have c0 : wA.cell? ⟨wr.heap.size, 0, none⟩ = some (.int .i64 127) := (hbA.cell (p := ⟨wr.heap.size, 0, none⟩) (by simp)).trans (by simp)
          have c1 : wA.cell? ⟨wr.heap.size, 1, none⟩ = some (.int .i64 129) := (hbA.cell (p := ⟨wr.heap.size, 1, none⟩) (by simp)).trans (by simp)
          have c2 : wA.cell? ⟨wr.heap.size, 2, none⟩ = some (.int .i64 126) := (hbA.cell (p := ⟨wr.heap.size, 2, none⟩) (by simp)).trans (by simp)
          have c3 : wA.cell? ⟨wr.heap.size, 3, none⟩ = some (.int .i64 124) := (hbA.cell (p := ⟨wr.heap.size, 3, none⟩) (by simp)).trans (by simp)
          have hTA := HK.out _ _ hTa hbA
          have hbB := hba.trans (hbA.mono hba.size)
          clear hTa hba hbA HQ h0 h1 h2 h3
          have hlA : wr.heap.size < wA.heap.size := by have := hbB.size; have := c0; exact World.block_lt_of_cell? wA _ c0
          go_wp2_with fail
          refine (HR.out _ hTA).mono ?_
          rintro e wC ⟨rfl, hbC⟩
          have d0 := (hbC.cell (p := ⟨wr.heap.size, 0, none⟩) hlA).trans c0
          have d1 := (hbC.cell (p := ⟨wr.heap.size, 1, none⟩) hlA).trans c1
          have d2 := (hbC.cell (p := ⟨wr.heap.size, 2, none⟩) hlA).trans c2
          have d3 := (hbC.cell (p := ⟨wr.heap.size, 3, none⟩) hlA).trans c3
          have hTC := HK.out _ _ hTA hbC
          have hbD := hbB.trans (hbC.mono hbB.size)
          have hlC : wr.heap.size < wC.heap.size := Nat.lt_of_lt_of_le hlA hbC.size
          clear hTA hbB hbC HR c0 c1 c2 c3 hlA
          go_wp2_with fail
          refine (HX.out _ hTC).mono ?_
          rintro e wE ⟨rfl, hbE⟩
          have e0 := (hbE.cell (p := ⟨wr.heap.size, 0, none⟩) hlC).trans d0
          have e1 := (hbE.cell (p := ⟨wr.heap.size, 1, none⟩) hlC).trans d1
          have e2 := (hbE.cell (p := ⟨wr.heap.size, 2, none⟩) hlC).trans d2
          have e3 := (hbE.cell (p := ⟨wr.heap.size, 3, none⟩) hlC).trans d3
          have hTE := HK.out _ _ hTC hbE
          have hbF := hbD.trans (hbE.mono hbD.size)
          have hlE : wr.heap.size < wE.heap.size := Nat.lt_of_lt_of_le hlC hbE.size
          clear hTC hbD hbE HX d0 d1 d2 d3 hlC
          go_wp2_with fail
          refine (HY.out _ hTE).mono ?_
          rintro e wG ⟨rfl, hbG⟩
          have g0 := (hbG.cell (p := ⟨wr.heap.size, 0, none⟩) hlE).trans e0
          have g1 := (hbG.cell (p := ⟨wr.heap.size, 1, none⟩) hlE).trans e1
          have g2 := (hbG.cell (p := ⟨wr.heap.size, 2, none⟩) hlE).trans e2
          have g3 := (hbG.cell (p := ⟨wr.heap.size, 3, none⟩) hlE).trans e3
          have hTG := HK.out _ _ hTE hbG
          have hbH := hbF.trans (hbG.mono hbF.size)
          clear hTE hbF hbG HY e0 e1 e2 e3 hlE
          go_wp2
          go_roundw
          case rel => exact ⟨3, by omega, rfl, hbr.trans (hbH.mono hbr.size), hTG⟩
          case measure => simp [intOf]
      · rw [show (((3 : Nat) : Int)) = 3 from rfl]
        have h0 : wr.cell? ⟨B, 12, none⟩ = some (.int .i64 128) := (hbr.cell (p := ⟨B, 12, none⟩) (by show B < _; rw [HSZ.out]; omega)).trans C12.out
        have h1 : wr.cell? ⟨B, 13, none⟩ = some (.int .i64 130) := (hbr.cell (p := ⟨B, 13, none⟩) (by show B < _; rw [HSZ.out]; omega)).trans C13.out
        have h2 : wr.cell? ⟨B, 14, none⟩ = some (.int .i64 126) := (hbr.cell (p := ⟨B, 14, none⟩) (by show B < _; rw [HSZ.out]; omega)).trans C14.out
        have h3 : wr.cell? ⟨B, 15, none⟩ = some (.int .i64 124) := (hbr.cell (p := ⟨B, 15, none⟩) (by show B < _; rw [HSZ.out]; omega)).trans C15.out
        have hba : Below wr.heap.size wr (wr.alloc (.cells #[.int .i64 128, .int .i64 130, .int .i64 126, .int .i64 124] 37)) := (Below.refl _ _).alloc (Nat.le_refl _) _
        have hTa := HK.out _ _ hTr hba
        rcases row_3 a b with ⟨q, r, hq, hr⟩ | ⟨q, hq, hr⟩ | ⟨q, r, x, hq, hr, hql, hrl, hxl, hx, hy, hrb⟩
        · have HQ := Lib.hid (fun W hW => bin_is HD.out W hW (i64 128 (by omega) (by omega)) HAB.out.1 HAB.out.2 hq)
          have HR := Lib.hid (fun W hW => bin_is HD.out W hW (i64 130 (by omega) (by omega)) HAB.out.1 HAB.out.2 hr)
          clear hq hr
          go_wp2_with fail
          refine (HQ.out _ hTa).mono ?_
          rintro e wA ⟨rfl, hbA⟩
          have c0 : wA.cell? ⟨wr.heap.size, 0, none⟩ = some (.int .i64 128) := (hbA.cell (p := ⟨wr.heap.size, 0, none⟩) (by simp)).trans (by simp)
          have c1 : wA.cell? ⟨wr.heap.size, 1, none⟩ = some (.int .i64 130) := (hbA.cell (p := ⟨wr.heap.size, 1, none⟩) (by simp)).trans (by simp)
          have c2 : wA.cell? ⟨wr.heap.size, 2, none⟩ = some (.int .i64 126) := (hbA.cell (p := ⟨wr.heap.size, 2, none⟩) (by simp)).trans (by simp)
          have c3 : wA.cell? ⟨wr.heap.size, 3, none⟩ = some (.int .i64 124) := (hbA.cell (p := ⟨wr.heap.size, 3, none⟩) (by simp)).trans (by simp)
          have hTA := HK.out _ _ hTa hbA
          have hbB := hba.trans (hbA.mono hba.size)
          clear hTa hba hbA HQ h0 h1 h2 h3
          have hlA : wr.heap.size < wA.heap.size := by have := hbB.size; have := c0; exact World.block_lt_of_cell? wA _ c0
          go_wp2_with fail
          refine (HR.out _ hTA).mono ?_
          rintro e wC ⟨rfl, hbC⟩
          have d0 := (hbC.cell (p := ⟨wr.heap.size, 0, none⟩) hlA).trans c0
          have d1 := (hbC.cell (p := ⟨wr.heap.size, 1, none⟩) hlA).trans c1
          have d2 := (hbC.cell (p := ⟨wr.heap.size, 2, none⟩) hlA).trans c2
          have d3 := (hbC.cell (p := ⟨wr.heap.size, 3, none⟩) hlA).trans c3
          have hTC := HK.out _ _ hTA hbC
          have hbD := hbB.trans (hbC.mono hbB.size)
          have hlC : wr.heap.size < wC.heap.size := Nat.lt_of_lt_of_le hlA hbC.size
          clear hTA hbB hbC HR c0 c1 c2 c3 hlA
          go_wp2
          go_roundw
          case rel => exact ⟨4, by omega, rfl, hbr.trans (hbD.mono hbr.size), hTC⟩
          case measure => simp [intOf]
        · have HQ := Lib.hid (fun W hW => bin_is HD.out W hW (i64 128 (by omega) (by omega)) HAB.out.1 HAB.out.2 hq)
          have HR := Lib.hid (fun W hW => bin_is HD.out W hW (i64 130 (by omega) (by omega)) HAB.out.1 HAB.out.2 hr)
          clear hq hr
          go_wp2_with fail
          refine (HQ.out _ hTa).mono ?_
          rintro e wA ⟨rfl, hbA⟩
          have c0 : wA.cell? ⟨wr.heap.size, 0, none⟩ = some (.int .i64 128) := (hbA.cell (p := ⟨wr.heap.size, 0, none⟩) (by simp)).trans (by simp)
          have c1 : wA.cell? ⟨wr.heap.size, 1, none⟩ = some (.int .i64 130) := (hbA.cell (p := ⟨wr.heap.size, 1, none⟩) (by simp)).trans (by simp)
          have c2 : wA.cell? ⟨wr.heap.size, 2, none⟩ = some (.int .i64 126) := (hbA.cell (p := ⟨wr.heap.size, 2, none⟩) (by simp)).trans (by simp)
          have c3 : wA.cell? ⟨wr.heap.size, 3, none⟩ = some (.int .i64 124) := (hbA.cell (p := ⟨wr.heap.size, 3, none⟩) (by simp)).trans (by simp)
          have hTA := HK.out _ _ hTa hbA
          have hbB := hba.trans (hbA.mono hba.size)
          clear hTa hba hbA HQ h0 h1 h2 h3
          have hlA : wr.heap.size < wA.heap.size := by have := hbB.size; have := c0; exact World.block_lt_of_cell? wA _ c0
          go_wp2_with fail
          refine (HR.out _ hTA).mono ?_
          rintro e wC ⟨rfl, hbC⟩
          have d0 := (hbC.cell (p := ⟨wr.heap.size, 0, none⟩) hlA).trans c0
          have d1 := (hbC.cell (p := ⟨wr.heap.size, 1, none⟩) hlA).trans c1
          have d2 := (hbC.cell (p := ⟨wr.heap.size, 2, none⟩) hlA).trans c2
          have d3 := (hbC.cell (p := ⟨wr.heap.size, 3, none⟩) hlA).trans c3
          have hTC := HK.out _ _ hTA hbC
          have hbD := hbB.trans (hbC.mono hbB.size)
          have hlC : wr.heap.size < wC.heap.size := Nat.lt_of_lt_of_le hlA hbC.size
          clear hTA hbB hbC HR c0 c1 c2 c3 hlA
          go_wp2
          go_roundw
          case rel => exact ⟨4, by omega, rfl, hbr.trans (hbD.mono hbr.size), hTC⟩
          case measure => simp [intOf]
        · have HQ := Lib.hid (fun W hW => bin_is HD.out W hW (i64 128 (by omega) (by omega)) HAB.out.1 HAB.out.2 hq)
          have HR := Lib.hid (fun W hW => bin_is HD.out W hW (i64 130 (by omega) (by omega)) HAB.out.1 HAB.out.2 hr)
          have HX := Lib.hid (fun W hW => bin_is HD.out W hW (i64 126 (by omega) (by omega)) (by omega) HAB.out.2 hx)
          have HY := Lib.hid (fun W hW => bin_is HD.out W hW (i64 124 (by omega) (by omega)) (by omega) (by omega) hy)
          rw [show cutN a 64 = a from Nat.mod_eq_of_lt HAB.out.1] at HY
          rw [show cutN b 64 = b from Nat.mod_eq_of_lt HAB.out.2] at hrb
          have hrd : decide (b ≤ r) = false := by simp; omega
          clear hql hrl hxl hx hy hrb
          clear hq hr
          go_wp2_with fail
          refine (HQ.out _ hTa).mono ?_
          rintro e wA ⟨rfl, hbA⟩
          have c0 : wA.cell? ⟨wr.heap.size, 0, none⟩ = some (.int .i64 128) := (hbA.cell (p := ⟨wr.heap.size, 0, none⟩) (by simp)).trans (by simp)
          have c1 : wA.cell? ⟨wr.heap.size, 1, none⟩ = some (.int .i64 130) := (hbA.cell (p := ⟨wr.heap.size, 1, none⟩) (by simp)).trans (by simp)
          have c2 : wA.cell? ⟨wr.heap.size, 2, none⟩ = some (.int .i64 126) := (hbA.cell (p := ⟨wr.heap.size, 2, none⟩) (by simp)).trans (by simp)
          have c3 : wA.cell? ⟨wr.heap.size, 3, none⟩ = some (.int .i64 124) := (hbA.cell (p := ⟨wr.heap.size, 3, none⟩) (by simp)).trans (by simp)
          have hTA := HK.out _ _ hTa hbA
          have hbB := hba.trans (hbA.mono hba.size)
          clear hTa hba hbA HQ h0 h1 h2 h3
          have hlA : wr.heap.size < wA.heap.size := by have := hbB.size; have := c0; exact World.block_lt_of_cell? wA _ c0
          go_wp2_with fail
          refine (HR.out _ hTA).mono ?_
          rintro e wC ⟨rfl, hbC⟩
          have d0 := (hbC.cell (p := ⟨wr.heap.size, 0, none⟩) hlA).trans c0
          have d1 := (hbC.cell (p := ⟨wr.heap.size, 1, none⟩) hlA).trans c1
          have d2 := (hbC.cell (p := ⟨wr.heap.size, 2, none⟩) hlA).trans c2
          have d3 := (hbC.cell (p := ⟨wr.heap.size, 3, none⟩) hlA).trans c3
          have hTC := HK.out _ _ hTA hbC
          have hbD := hbB.trans (hbC.mono hbB.size)
          have hlC : wr.heap.size < wC.heap.size := Nat.lt_of_lt_of_le hlA hbC.size
          clear hTA hbB hbC HR c0 c1 c2 c3 hlA
          go_wp2_with fail
          refine (HX.out _ hTC).mono ?_
          rintro e wE ⟨rfl, hbE⟩
          have e0 := (hbE.cell (p := ⟨wr.heap.size, 0, none⟩) hlC).trans d0
          have e1 := (hbE.cell (p := ⟨wr.heap.size, 1, none⟩) hlC).trans d1
          have e2 := (hbE.cell (p := ⟨wr.heap.size, 2, none⟩) hlC).trans d2
          have e3 := (hbE.cell (p := ⟨wr.heap.size, 3, none⟩) hlC).trans d3
          have hTE := HK.out _ _ hTC hbE
          have hbF := hbD.trans (hbE.mono hbD.size)
          have hlE : wr.heap.size < wE.heap.size := Nat.lt_of_lt_of_le hlC hbE.size
          clear hTC hbD hbE HX d0 d1 d2 d3 hlC
          go_wp2_with fail
          refine (HY.out _ hTE).mono ?_
          rintro e wG ⟨rfl, hbG⟩
          have g0 := (hbG.cell (p := ⟨wr.heap.size, 0, none⟩) hlE).trans e0
          have g1 := (hbG.cell (p := ⟨wr.heap.size, 1, none⟩) hlE).trans e1
          have g2 := (hbG.cell (p := ⟨wr.heap.size, 2, none⟩) hlE).trans e2
          have g3 := (hbG.cell (p := ⟨wr.heap.size, 3, none⟩) hlE).trans e3
          have hTG := HK.out _ _ hTE hbG
          have hbH := hbF.trans (hbG.mono hbF.size)
          clear hTE hbF hbG HY e0 e1 e2 e3 hlE
          go_wp2
          go_roundw
          case rel => exact ⟨4, by omega, rfl, hbr.trans (hbH.mono hbr.size), hTG⟩
          case measure => simp [intOf]
    · have hlti : ¬ (j : Int) < 4 := by omega
      go_wp2
      go_ret
      exact ⟨rfl, hb2.trans (hbr.mono hb2.size)⟩
end
end Go.Proofs.YtbgcafkdojoilaaDoor.Num
