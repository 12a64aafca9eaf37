/-
  num's own divide: what it comes to, for every code. Condition: the numbers are of w bits, w 32 or 64.
-/
import Derived.Test.YtbgcafkdojoilaaDoorNumLeaf
import Derived.Test.YtbgcafkdojoilaaDoorNumDivLaw
namespace Go.Proofs.YtbgcafkdojoilaaDoor.Num
open Go.RowKit

def Div2 (w : World) (v t : Nat) (e : Ending) (w' : World) : Prop := e = .returned (.tuple #[.int .u64 (v : Int), .int .i64 (t : Int)]) ∧ w = w'
theorem into_32 (z : Int) (q : Nat) (h : (q : Int) = z % 4294967296) : ∃ s : Nat, s < 18446744073709551616 ∧ IntKind.u64.wrap (wrap64 z) = (s : Int) ∧ IntKind.u64.wrap z = (s : Int) ∧ cutN s 32 = q := by
  refine ⟨(z % 18446744073709551616).toNat, by omega, ?_, ?_, ?_⟩
  · rw [IntKind.wrap_u64, wrap64_def]; omega
  · rw [IntKind.wrap_u64]; omega
  · unfold cutN; omega
theorem into_64 (z : Int) (q : Nat) (h : (q : Int) = z % 18446744073709551616) : ∃ s : Nat, s < 18446744073709551616 ∧ IntKind.u64.wrap (wrap64 z) = (s : Int) ∧ IntKind.u64.wrap z = (s : Int) ∧ cutN s 64 = q := by
  refine ⟨(z % 18446744073709551616).toNat, by omega, ?_, ?_, ?_⟩
  · rw [IntKind.wrap_u64, wrap64_def]; omega
  · rw [IntKind.wrap_u64]; omega
  · unfold cutN; omega
set_option maxRecDepth 100000 in
theorem div_zero (c W : Int) (a : Nat) (wo : World) :
    Calls Tryd.prog 28 #[.int .i64 c, .int .u64 (a : Int), .int .u64 0, .int .u64 W] wo (Div2 wo 0 6) := by
  go_enter Tryd.func28, Tryd.ntmps28
  go_wp2
  go_ret2
  exact ⟨rfl, rfl⟩
set_option maxRecDepth 100000 in
theorem div_quo_32 (a b s q : Nat) (x y : Int) (wo : World) (hb0 : ((b : Int) == 0) = false) (hy0 : ¬ y = 0) (hx : (x == -2147483648) = false) (hE : IntKind.u64.wrap (wrap64 (x.tdiv y)) = (s : Int))
    (HA : Hid (∀ V, Calls Tryd.prog 37 #[.int .u64 (a : Int), .int .u64 32] V fun e w' => e = .returned (.int .i64 x) ∧ V = w'))
    (HB : Hid (∀ V, Calls Tryd.prog 37 #[.int .u64 (b : Int), .int .u64 32] V fun e w' => e = .returned (.int .i64 y) ∧ V = w'))
    (HC : Hid (∀ V, Calls Tryd.prog 18 #[.int .u64 (s : Int), .int .u64 32] V fun e w' => e = .returned (.int .u64 (q : Int)) ∧ V = w')) :
    Calls Tryd.prog 28 #[.int .i64 109, .int .u64 (a : Int), .int .u64 (b : Int), .int .u64 32] wo (Div2 wo q 0) := by
  go_enter Tryd.func28, Tryd.ntmps28
  go_wp2_with fail
  refine (HA.out _).mono ?_
  rintro e w' ⟨rfl, rfl⟩
  go_wp2_with fail
  refine (HB.out _).mono ?_
  rintro e w' ⟨rfl, rfl⟩
  go_wp2_with fail
  refine (HC.out _).mono ?_
  rintro e w' ⟨rfl, rfl⟩
  go_wp2
  go_ret2
  exact ⟨rfl, rfl⟩
set_option maxRecDepth 100000 in
theorem div_quoy_32 (a b s q : Nat) (x y : Int) (wo : World) (hb0 : ((b : Int) == 0) = false) (hy0 : ¬ y = 0) (hx : (x == -2147483648) = true) (hy : (y == -1) = false) (hE : IntKind.u64.wrap (wrap64 (x.tdiv y)) = (s : Int))
    (HA : Hid (∀ V, Calls Tryd.prog 37 #[.int .u64 (a : Int), .int .u64 32] V fun e w' => e = .returned (.int .i64 x) ∧ V = w'))
    (HB : Hid (∀ V, Calls Tryd.prog 37 #[.int .u64 (b : Int), .int .u64 32] V fun e w' => e = .returned (.int .i64 y) ∧ V = w'))
    (HC : Hid (∀ V, Calls Tryd.prog 18 #[.int .u64 (s : Int), .int .u64 32] V fun e w' => e = .returned (.int .u64 (q : Int)) ∧ V = w')) :
    Calls Tryd.prog 28 #[.int .i64 109, .int .u64 (a : Int), .int .u64 (b : Int), .int .u64 32] wo (Div2 wo q 0) := by
  go_enter Tryd.func28, Tryd.ntmps28
  go_wp2_with fail
  refine (HA.out _).mono ?_
  rintro e w' ⟨rfl, rfl⟩
  go_wp2_with fail
  refine (HB.out _).mono ?_
  rintro e w' ⟨rfl, rfl⟩
  go_wp2_with fail
  refine (HC.out _).mono ?_
  rintro e w' ⟨rfl, rfl⟩
  go_wp2
  go_ret2
  exact ⟨rfl, rfl⟩
set_option maxRecDepth 100000 in
theorem div_over_32 (a b : Nat) (x y : Int) (wo : World) (hb0 : ((b : Int) == 0) = false) (hx : (x == -2147483648) = true) (hy : (y == -1) = true)
    (HA : Hid (∀ V, Calls Tryd.prog 37 #[.int .u64 (a : Int), .int .u64 32] V fun e w' => e = .returned (.int .i64 x) ∧ V = w'))
    (HB : Hid (∀ V, Calls Tryd.prog 37 #[.int .u64 (b : Int), .int .u64 32] V fun e w' => e = .returned (.int .i64 y) ∧ V = w')) :
    Calls Tryd.prog 28 #[.int .i64 109, .int .u64 (a : Int), .int .u64 (b : Int), .int .u64 32] wo (Div2 wo 0 7) := by
  go_enter Tryd.func28, Tryd.ntmps28
  go_wp2_with fail
  refine (HA.out _).mono ?_
  rintro e w' ⟨rfl, rfl⟩
  go_wp2_with fail
  refine (HB.out _).mono ?_
  rintro e w' ⟨rfl, rfl⟩
  go_wp2
  go_ret2
  exact ⟨rfl, rfl⟩
set_option maxRecDepth 100000 in
theorem div_quo_64 (a b s q : Nat) (x y : Int) (wo : World) (hb0 : ((b : Int) == 0) = false) (hy0 : ¬ y = 0) (hx : (x == -9223372036854775808) = false) (hE : IntKind.u64.wrap (wrap64 (x.tdiv y)) = (s : Int))
    (HA : Hid (∀ V, Calls Tryd.prog 37 #[.int .u64 (a : Int), .int .u64 64] V fun e w' => e = .returned (.int .i64 x) ∧ V = w'))
    (HB : Hid (∀ V, Calls Tryd.prog 37 #[.int .u64 (b : Int), .int .u64 64] V fun e w' => e = .returned (.int .i64 y) ∧ V = w'))
    (HC : Hid (∀ V, Calls Tryd.prog 18 #[.int .u64 (s : Int), .int .u64 64] V fun e w' => e = .returned (.int .u64 (q : Int)) ∧ V = w')) :
    Calls Tryd.prog 28 #[.int .i64 109, .int .u64 (a : Int), .int .u64 (b : Int), .int .u64 64] wo (Div2 wo q 0) := by
  go_enter Tryd.func28, Tryd.ntmps28
  go_wp2_with fail
  refine (HA.out _).mono ?_
  rintro e w' ⟨rfl, rfl⟩
  go_wp2_with fail
  refine (HB.out _).mono ?_
  rintro e w' ⟨rfl, rfl⟩
  go_wp2_with fail
  refine (HC.out _).mono ?_
  rintro e w' ⟨rfl, rfl⟩
  go_wp2
  go_ret2
  exact ⟨rfl, rfl⟩
set_option maxRecDepth 100000 in
theorem div_quoy_64 (a b s q : Nat) (x y : Int) (wo : World) (hb0 : ((b : Int) == 0) = false) (hy0 : ¬ y = 0) (hx : (x == -9223372036854775808) = true) (hy : (y == -1) = false) (hE : IntKind.u64.wrap (wrap64 (x.tdiv y)) = (s : Int))
    (HA : Hid (∀ V, Calls Tryd.prog 37 #[.int .u64 (a : Int), .int .u64 64] V fun e w' => e = .returned (.int .i64 x) ∧ V = w'))
    (HB : Hid (∀ V, Calls Tryd.prog 37 #[.int .u64 (b : Int), .int .u64 64] V fun e w' => e = .returned (.int .i64 y) ∧ V = w'))
    (HC : Hid (∀ V, Calls Tryd.prog 18 #[.int .u64 (s : Int), .int .u64 64] V fun e w' => e = .returned (.int .u64 (q : Int)) ∧ V = w')) :
    Calls Tryd.prog 28 #[.int .i64 109, .int .u64 (a : Int), .int .u64 (b : Int), .int .u64 64] wo (Div2 wo q 0) := by
  go_enter Tryd.func28, Tryd.ntmps28
  go_wp2_with fail
  refine (HA.out _).mono ?_
  rintro e w' ⟨rfl, rfl⟩
  go_wp2_with fail
  refine (HB.out _).mono ?_
  rintro e w' ⟨rfl, rfl⟩
  go_wp2_with fail
  refine (HC.out _).mono ?_
  rintro e w' ⟨rfl, rfl⟩
  go_wp2
  go_ret2
  exact ⟨rfl, rfl⟩
set_option maxRecDepth 100000 in
theorem div_over_64 (a b : Nat) (x y : Int) (wo : World) (hb0 : ((b : Int) == 0) = false) (hx : (x == -9223372036854775808) = true) (hy : (y == -1) = true)
    (HA : Hid (∀ V, Calls Tryd.prog 37 #[.int .u64 (a : Int), .int .u64 64] V fun e w' => e = .returned (.int .i64 x) ∧ V = w'))
    (HB : Hid (∀ V, Calls Tryd.prog 37 #[.int .u64 (b : Int), .int .u64 64] V fun e w' => e = .returned (.int .i64 y) ∧ V = w')) :
    Calls Tryd.prog 28 #[.int .i64 109, .int .u64 (a : Int), .int .u64 (b : Int), .int .u64 64] wo (Div2 wo 0 7) := by
  go_enter Tryd.func28, Tryd.ntmps28
  go_wp2_with fail
  refine (HA.out _).mono ?_
  rintro e w' ⟨rfl, rfl⟩
  go_wp2_with fail
  refine (HB.out _).mono ?_
  rintro e w' ⟨rfl, rfl⟩
  go_wp2
  go_ret2
  exact ⟨rfl, rfl⟩
set_option maxRecDepth 100000 in
theorem div_rem (a b s q : Nat) (W x y : Int) (wo : World) (hb0 : ((b : Int) == 0) = false) (hy0 : ¬ y = 0) (hE : IntKind.u64.wrap (x.tmod y) = (s : Int))
    (HA : Hid (∀ V, Calls Tryd.prog 37 #[.int .u64 (a : Int), .int .u64 W] V fun e w' => e = .returned (.int .i64 x) ∧ V = w'))
    (HB : Hid (∀ V, Calls Tryd.prog 37 #[.int .u64 (b : Int), .int .u64 W] V fun e w' => e = .returned (.int .i64 y) ∧ V = w'))
    (HC : Hid (∀ V, Calls Tryd.prog 18 #[.int .u64 (s : Int), .int .u64 W] V fun e w' => e = .returned (.int .u64 (q : Int)) ∧ V = w')) :
    Calls Tryd.prog 28 #[.int .i64 111, .int .u64 (a : Int), .int .u64 (b : Int), .int .u64 W] wo (Div2 wo q 0) := by
  go_enter Tryd.func28, Tryd.ntmps28
  go_wp2_with fail
  refine (HA.out _).mono ?_
  rintro e w' ⟨rfl, rfl⟩
  go_wp2_with fail
  refine (HB.out _).mono ?_
  rintro e w' ⟨rfl, rfl⟩
  go_wp2_with fail
  refine (HC.out _).mono ?_
  rintro e w' ⟨rfl, rfl⟩
  go_wp2
  go_ret2
  exact ⟨rfl, rfl⟩
set_option maxRecDepth 100000 in
theorem div_uquo (a b q : Nat) (W x y : Int) (wo : World) (hb0 : ((b : Int) == 0) = false) (hb1 : ¬ b = 0) (hE : IntKind.u64.wrap ((a : Int) / (b : Int)) = (q : Int))
    (HA : Hid (∀ V, Calls Tryd.prog 37 #[.int .u64 (a : Int), .int .u64 W] V fun e w' => e = .returned (.int .i64 x) ∧ V = w'))
    (HB : Hid (∀ V, Calls Tryd.prog 37 #[.int .u64 (b : Int), .int .u64 W] V fun e w' => e = .returned (.int .i64 y) ∧ V = w')) :
    Calls Tryd.prog 28 #[.int .i64 110, .int .u64 (a : Int), .int .u64 (b : Int), .int .u64 W] wo (Div2 wo q 0) := by
  go_enter Tryd.func28, Tryd.ntmps28
  go_wp2_with fail
  refine (HA.out _).mono ?_
  rintro e w' ⟨rfl, rfl⟩
  go_wp2_with fail
  refine (HB.out _).mono ?_
  rintro e w' ⟨rfl, rfl⟩
  go_wp2
  go_ret2
  exact ⟨rfl, rfl⟩
set_option maxRecDepth 100000 in
theorem div_urem (a b q : Nat) (W x y : Int) (wo : World) (hb0 : ((b : Int) == 0) = false) (hb1 : ¬ b = 0) (hE : (a : Int).tmod (b : Int) = (q : Int))
    (HA : Hid (∀ V, Calls Tryd.prog 37 #[.int .u64 (a : Int), .int .u64 W] V fun e w' => e = .returned (.int .i64 x) ∧ V = w'))
    (HB : Hid (∀ V, Calls Tryd.prog 37 #[.int .u64 (b : Int), .int .u64 W] V fun e w' => e = .returned (.int .i64 y) ∧ V = w')) :
    Calls Tryd.prog 28 #[.int .i64 112, .int .u64 (a : Int), .int .u64 (b : Int), .int .u64 W] wo (Div2 wo q 0) := by
  go_enter Tryd.func28, Tryd.ntmps28
  go_wp2_with fail
  refine (HA.out _).mono ?_
  rintro e w' ⟨rfl, rfl⟩
  go_wp2_with fail
  refine (HB.out _).mono ?_
  rintro e w' ⟨rfl, rfl⟩
  go_wp2
  go_ret2
  exact ⟨rfl, rfl⟩
theorem sg32_zero (b : Nat) (hb : b < 4294967296) (h : b ≠ 0) : ¬ sg32 b = 0 := by unfold sg32; split <;> omega
theorem sg32_least (a : Nat) (ha : a < 4294967296) : sg32 a = -2147483648 ↔ a = 2147483648 := by unfold sg32; split <;> omega
theorem sg32_one (b : Nat) (hb : b < 4294967296) : sg32 b = -1 ↔ b = 4294967296 - 1 := by unfold sg32; split <;> omega
/-- What divide answers: k 0 to 3: quotient signed, unsigned, rest signed, unsigned. -/
theorem odiv_32 (k a b : Nat) (wo : World) (ha : a < 4294967296) (hb : b < 4294967296) (hk : k < 4) :
    Calls Tryd.prog 28 #[.int .i64 (109 + k : Int), .int .u64 (a : Int), .int .u64 (b : Int), .int .u64 32] wo (Div2 wo (binVal (13 + k) 32 a b).1 (binVal (13 + k) 32 a b).2) := by
  by_cases hb0 : b = 0
  · subst hb0
    have hv : binVal (13 + k) 32 a 0 = (0, 6) := by
      match k, hk with
      | 0, _ => rfl
      | 1, _ => rfl
      | 2, _ => rfl
      | 3, _ => rfl
    rw [hv]
    exact div_zero _ _ a wo
  have hz : ((b : Int) == 0) = false := by simp; omega
  have HA : Hid (∀ V, Calls Tryd.prog 37 #[.int .u64 (a : Int), .int .u64 32] V fun e w' => e = .returned (.int .i64 (sg32 a)) ∧ V = w') := Lib.hid fun V => osigned_any a 32 32 wide32 ha V
  have HB : Hid (∀ V, Calls Tryd.prog 37 #[.int .u64 (b : Int), .int .u64 32] V fun e w' => e = .returned (.int .i64 (sg32 b)) ∧ V = w') := Lib.hid fun V => osigned_any b 32 32 wide32 hb V
  have hy := sg32_zero b hb hb0
  have hl := sg32_least a ha
  have ho := sg32_one b hb
  have HC : ∀ s q : Nat, s < 18446744073709551616 → cutN s 32 = q → Hid (∀ V, Calls Tryd.prog 18 #[.int .u64 (s : Int), .int .u64 32] V fun e w' => e = .returned (.int .u64 (q : Int)) ∧ V = w') := fun s q hs hq => Lib.hid fun V => by rw [← hq]; exact ocut_any s 32 32 wide32 hs V
  have hu : quotN a b 32 false = (a / b, a % b, 0, 0) := by unfold quotN; rw [if_neg hb0, if_pos rfl]
  match k, hk with
  | 0, _ =>
    by_cases hov : a = 2147483648 ∧ b = 4294967296 - 1
    · obtain ⟨rfl, rfl⟩ := hov
      have hv : binVal 13 32 2147483648 (4294967296 - 1) = (0, 7) := by show ((quotN _ _ _ _).1, (quotN _ _ _ _).2.2.1) = _; rw [quot_over32]
      rw [hv]
      exact div_over_32 _ _ _ _ wo hz (by simpa using hl.2 rfl) (by simpa using ho.2 rfl) HA HB
    · obtain ⟨h1, h2, h3⟩ := quot_sg32 a b ha hb hb0 hov
      have hv : binVal 13 32 a b = ((quotN a b 32 true).1, 0) := by show ((quotN _ _ _ _).1, (quotN _ _ _ _).2.2.1) = _; rw [h3]
      rw [hv]
      obtain ⟨s, hs, e1, e2, e3⟩ := into_32 _ _ h1
      by_cases hx : a = 2147483648
      · exact div_quoy_32 a b s _ _ _ wo hz hy (by simpa using hl.2 hx) (by simp; intro h; exact hov ⟨hx, ho.1 h⟩) e1 HA HB (HC _ _ hs e3)
      · exact div_quo_32 a b s _ _ _ wo hz hy (by simp; intro h; exact hx (hl.1 h)) e1 HA HB (HC _ _ hs e3)
  | 1, _ =>
    have hv : binVal 14 32 a b = (a / b, 0) := by show ((quotN _ _ _ _).1, (quotN _ _ _ _).2.2.1) = _; rw [hu]
    rw [hv]
    have hd : a / b ≤ a := Nat.div_le_self _ _
    exact div_uquo a b _ 32 _ _ wo hz hb0 (by rw [show (a : Int) / (b : Int) = ((a / b : Nat) : Int) from rfl]; generalize a / b = n at *; rw [IntKind.wrap_u64]; omega) HA HB
  | 2, _ =>
    have hv : binVal 15 32 a b = ((quotN a b 32 true).2.1, 0) ∧ (((quotN a b 32 true).2.1 : Nat) : Int) = ((sg32 a).tmod (sg32 b)) % 4294967296 := by
      by_cases hov : a = 2147483648 ∧ b = 4294967296 - 1
      · obtain ⟨rfl, rfl⟩ := hov
        refine ⟨?_, ?_⟩
        · show ((quotN _ _ _ _).2.1, (quotN _ _ _ _).2.2.2) = _; rw [quot_over32]
        · rw [quot_over32, ho.2 rfl, Int.tmod_neg, Int.tmod_one]; rfl
      · obtain ⟨h1, h2, h3⟩ := quot_sg32 a b ha hb hb0 hov
        refine ⟨?_, h2⟩
        show ((quotN _ _ _ _).2.1, (quotN _ _ _ _).2.2.2) = _; rw [h3]
    obtain ⟨hv, h2⟩ := hv
    rw [hv]
    obtain ⟨s, hs, e1, e2, e3⟩ := into_32 _ _ h2
    exact div_rem a b s _ 32 _ _ wo hz hy e2 HA HB (HC _ _ hs e3)
  | 3, _ =>
    have hv : binVal 16 32 a b = (a % b, 0) := by show ((quotN _ _ _ _).2.1, (quotN _ _ _ _).2.2.2) = _; rw [hu]
    rw [hv]
    exact div_urem a b _ 32 _ _ wo hz hb0 (Int.ofNat_tmod a b).symm HA HB
theorem sg64_zero (b : Nat) (hb : b < 18446744073709551616) (h : b ≠ 0) : ¬ sg64 b = 0 := by unfold sg64; split <;> omega
theorem sg64_least (a : Nat) (ha : a < 18446744073709551616) : sg64 a = -9223372036854775808 ↔ a = 9223372036854775808 := by unfold sg64; split <;> omega
theorem sg64_one (b : Nat) (hb : b < 18446744073709551616) : sg64 b = -1 ↔ b = 18446744073709551616 - 1 := by unfold sg64; split <;> omega
/-- What divide answers: k 0 to 3: quotient signed, unsigned, rest signed, unsigned. -/
theorem odiv_64 (k a b : Nat) (wo : World) (ha : a < 18446744073709551616) (hb : b < 18446744073709551616) (hk : k < 4) :
    Calls Tryd.prog 28 #[.int .i64 (109 + k : Int), .int .u64 (a : Int), .int .u64 (b : Int), .int .u64 64] wo (Div2 wo (binVal (13 + k) 64 a b).1 (binVal (13 + k) 64 a b).2) := by
  by_cases hb0 : b = 0
  · subst hb0
    have hv : binVal (13 + k) 64 a 0 = (0, 6) := by
      match k, hk with
      | 0, _ => rfl
      | 1, _ => rfl
      | 2, _ => rfl
      | 3, _ => rfl
    rw [hv]
    exact div_zero _ _ a wo
  have hz : ((b : Int) == 0) = false := by simp; omega
  have HA : Hid (∀ V, Calls Tryd.prog 37 #[.int .u64 (a : Int), .int .u64 64] V fun e w' => e = .returned (.int .i64 (sg64 a)) ∧ V = w') := Lib.hid fun V => osigned_any a 64 64 wide64 ha V
  have HB : Hid (∀ V, Calls Tryd.prog 37 #[.int .u64 (b : Int), .int .u64 64] V fun e w' => e = .returned (.int .i64 (sg64 b)) ∧ V = w') := Lib.hid fun V => osigned_any b 64 64 wide64 hb V
  have hy := sg64_zero b hb hb0
  have hl := sg64_least a ha
  have ho := sg64_one b hb
  have HC : ∀ s q : Nat, s < 18446744073709551616 → cutN s 64 = q → Hid (∀ V, Calls Tryd.prog 18 #[.int .u64 (s : Int), .int .u64 64] V fun e w' => e = .returned (.int .u64 (q : Int)) ∧ V = w') := fun s q hs hq => Lib.hid fun V => by rw [← hq]; exact ocut_any s 64 64 wide64 hs V
  have hu : quotN a b 64 false = (a / b, a % b, 0, 0) := by unfold quotN; rw [if_neg hb0, if_pos rfl]
  match k, hk with
  | 0, _ =>
    by_cases hov : a = 9223372036854775808 ∧ b = 18446744073709551616 - 1
    · obtain ⟨rfl, rfl⟩ := hov
      have hv : binVal 13 64 9223372036854775808 (18446744073709551616 - 1) = (0, 7) := by show ((quotN _ _ _ _).1, (quotN _ _ _ _).2.2.1) = _; rw [quot_over64]
      rw [hv]
      exact div_over_64 _ _ _ _ wo hz (by simpa using hl.2 rfl) (by simpa using ho.2 rfl) HA HB
    · obtain ⟨h1, h2, h3⟩ := quot_sg64 a b ha hb hb0 hov
      have hv : binVal 13 64 a b = ((quotN a b 64 true).1, 0) := by show ((quotN _ _ _ _).1, (quotN _ _ _ _).2.2.1) = _; rw [h3]
      rw [hv]
      obtain ⟨s, hs, e1, e2, e3⟩ := into_64 _ _ h1
      by_cases hx : a = 9223372036854775808
      · exact div_quoy_64 a b s _ _ _ wo hz hy (by simpa using hl.2 hx) (by simp; intro h; exact hov ⟨hx, ho.1 h⟩) e1 HA HB (HC _ _ hs e3)
      · exact div_quo_64 a b s _ _ _ wo hz hy (by simp; intro h; exact hx (hl.1 h)) e1 HA HB (HC _ _ hs e3)
  | 1, _ =>
    have hv : binVal 14 64 a b = (a / b, 0) := by show ((quotN _ _ _ _).1, (quotN _ _ _ _).2.2.1) = _; rw [hu]
    rw [hv]
    have hd : a / b ≤ a := Nat.div_le_self _ _
    exact div_uquo a b _ 64 _ _ wo hz hb0 (by rw [show (a : Int) / (b : Int) = ((a / b : Nat) : Int) from rfl]; generalize a / b = n at *; rw [IntKind.wrap_u64]; omega) HA HB
  | 2, _ =>
    have hv : binVal 15 64 a b = ((quotN a b 64 true).2.1, 0) ∧ (((quotN a b 64 true).2.1 : Nat) : Int) = ((sg64 a).tmod (sg64 b)) % 18446744073709551616 := by
      by_cases hov : a = 9223372036854775808 ∧ b = 18446744073709551616 - 1
      · obtain ⟨rfl, rfl⟩ := hov
        refine ⟨?_, ?_⟩
        · show ((quotN _ _ _ _).2.1, (quotN _ _ _ _).2.2.2) = _; rw [quot_over64]
        · rw [quot_over64, ho.2 rfl, Int.tmod_neg, Int.tmod_one]; rfl
      · obtain ⟨h1, h2, h3⟩ := quot_sg64 a b ha hb hb0 hov
        refine ⟨?_, h2⟩
        show ((quotN _ _ _ _).2.1, (quotN _ _ _ _).2.2.2) = _; rw [h3]
    obtain ⟨hv, h2⟩ := hv
    rw [hv]
    obtain ⟨s, hs, e1, e2, e3⟩ := into_64 _ _ h2
    exact div_rem a b s _ 64 _ _ wo hz hy e2 HA HB (HC _ _ hs e3)
  | 3, _ =>
    have hv : binVal 16 64 a b = (a % b, 0) := by show ((quotN _ _ _ _).2.1, (quotN _ _ _ _).2.2.2) = _; rw [hu]
    rw [hv]
    exact div_urem a b _ 64 _ _ wo hz hb0 (Int.ofNat_tmod a b).symm HA HB
end Go.Proofs.YtbgcafkdojoilaaDoor.Num
