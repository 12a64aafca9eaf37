/-
  trammelref03's spread, turned, moved, each: numbers that are put together bit by bit. Conditions as each lemma says.
-/
import Derived.Test.YtbgcafkdojoilaaDoorNumRef
namespace Go.Proofs.YtbgcafkdojoilaaDoor.Num
open Go.RowKit

theorem asm_63 (f : Nat → Nat) (q d : Nat) (h : ∀ i, f i ≤ 1) (hd : d ≤ 63) : ((asm (fun t => f (q + 1 + t)) d : Nat) : Int) ≤ 9223372036854775807 := by
  have h1 := asm_lt (fun t => f (q + 1 + t)) d (fun i => h _)
  have h2 : (2 : Nat) ^ d ≤ 2 ^ 63 := Nat.pow_le_pow_right (by omega) hd
  omega
theorem asm_next (f : Nat → Nat) (q w : Nat) (hq : q < w) : asm (fun t => f (q + t)) (w - q) = asm (fun t => f (q + 1 + t)) (w - (q + 1)) * 2 + f q := by
  rw [show w - q = w - (q + 1) + 1 from by omega, asm_step]
theorem asm_all (f : Nat → Nat) (w : Nat) : asm (fun t => f (0 + t)) (w - 0) = asm f w := by
  have e : (fun t => f (0 + t)) = f := by funext t; rw [Nat.zero_add]
  rw [e]; rfl
/-- How far a loop from the highest bit down has come: bits from I + 1 on are there. -/
def Down (f : Nat → Nat) (w : Nat) (I : Int) (X : Nat) : Prop := X = asm (fun t => f ((I + 1).toNat + t)) (w - (I + 1).toNat)
theorem Down.start (f : Nat → Nat) (w : Nat) : Down f w ((w : Int) - 1) 0 := by
  unfold Down
  rw [show ((w : Int) - 1 + 1).toNat = w from by omega, Nat.sub_self]
  rfl
theorem Down.bound {f : Nat → Nat} {w q X : Nat} (h : Down f w (q : Int) X) (hf : ∀ i, f i ≤ 1) (hw : w ≤ 64) : (X : Int) ≤ 9223372036854775807 := by
  unfold Down at h
  rw [show ((q : Int) + 1).toNat = q + 1 from by omega] at h
  rw [h]
  exact asm_63 f q _ hf (by omega)
theorem Down.next {f : Nat → Nat} {w q X : Nat} (h : Down f w (q : Int) X) (hq : q < w) : Down f w ((q : Int) - 1) (X * 2 + f q) := by
  unfold Down at *
  rw [show ((q : Int) + 1).toNat = q + 1 from by omega] at h
  rw [show ((q : Int) - 1 + 1).toNat = q from by omega, h, asm_next f q w hq]
theorem Down.ends {f : Nat → Nat} {w X : Nat} {I : Int} (h : Down f w I X) (hI : -1 ≤ I) (hI2 : ¬ 0 ≤ I) : X = asm f w := by
  unfold Down at h
  rw [show (I + 1).toNat = 0 from by omega, asm_all] at h
  exact h
theorem int_u64 {a b : Int} (h : a = b) : Value.int .u64 a = .int .u64 b := by rw [h]

theorem spread_any (a k w : Nat) (wo : World) (hk : 1 ≤ k) (hk2 : k ≤ 64) (hw : w ≤ 64) :
    Calls Tryd.prog 26 #[.int .u64 (a : Int), .int .i64 (k : Int), .int .i64 (w : Int)] wo fun e w' => e = .returned (.int .u64 ((spreadN a k w : Nat) : Int)) ∧ wo = w' := by
  go_enter Tryd.func26, Tryd.ntmps26
  go_wp2
  go_loop [7, 8] (fun n i => ∃ (I : Int) (X : Nat), -1 ≤ I ∧ I < w ∧ i = .int .i64 I ∧ n = .int .u64 (X : Int) ∧ Hid (Down (fun i => bitN a (if k ≤ i then k - 1 else i)) w I X)) (fun _ i => (intOf i + 1).toNat)
  case atStart => exact ⟨(w : Int) - 1, 0, by omega, by omega, rfl, rfl, Lib.hid (Down.start _ _)⟩
  case round =>
    obtain ⟨I, X, hI1, hI2, rfl, rfl, hD⟩ := hrel
    by_cases hI : 0 ≤ I
    · obtain ⟨q, rfl⟩ := Int.eq_ofNat_of_zero_le hI
      have hX := hD.out.bound (fun i => bitN_le _ _) hw
      have HN := Lib.hid (hD.out.next (by omega))
      clear hD
      by_cases hkq : k ≤ q
      · have hkqi : (k : Int) ≤ (q : Int) := by omega
        have e : ((k : Int) - 1) = ((k - 1 : Nat) : Int) := by omega
        have hB := bit_any a (k - 1)
        rw [← e] at hB
        have HB := Lib.hid (fun W => hB W (by omega))
        have hB1 := bitN_le a (k - 1)
        have HN2 : Hid (Down (fun i => bitN a (if k ≤ i then k - 1 else i)) w ((q : Int) - 1) (X * 2 + bitN a (k - 1))) := Lib.hid (by have := HN.out; simp only [if_pos hkq] at this; exact this)
        clear HN hB e
        generalize bitN a (k - 1) = b at *
        go_wp2_with (go_at_call 25; refine (HB.out _).mono ?_; rintro e w' ⟨rfl, rfl⟩)
        go_round
        case rel => exact ⟨(q : Int) - 1, X * 2 + b, by omega, by omega, rfl, int_u64 (by omega), HN2⟩
        case measure => simp [intOf]
      · have hkqi : ¬ (k : Int) ≤ (q : Int) := by omega
        have HB := Lib.hid (fun W => bit_any a q W (by omega))
        have hB1 := bitN_le a q
        have HN2 : Hid (Down (fun i => bitN a (if k ≤ i then k - 1 else i)) w ((q : Int) - 1) (X * 2 + bitN a q)) := Lib.hid (by have := HN.out; simp only [if_neg hkq] at this; exact this)
        clear HN
        generalize bitN a q = b at *
        go_wp2_with (go_at_call 25; refine (HB.out _).mono ?_; rintro e w' ⟨rfl, rfl⟩)
        go_round
        case rel => exact ⟨(q : Int) - 1, X * 2 + b, by omega, by omega, rfl, int_u64 (by omega), HN2⟩
        case measure => simp [intOf]
    · have HE := Lib.hid (hD.out.ends hI1 hI)
      clear hD
      go_wp2
      go_ret
      exact ⟨ret_u64 (by rw [HE.out]; rfl), rfl⟩
theorem turned_32 (a n : Nat) (wo : World) (hn : n ≤ 64) :
    Calls Tryd.prog 35 #[.int .u64 (a : Int), .int .i64 (n : Int), .int .i64 32] wo fun e w' => e = .returned (.int .u64 ((turnN a n 32 : Nat) : Int)) ∧ wo = w' := by
  go_enter Tryd.func35, Tryd.ntmps35
  go_wp2
  go_loop [7, 8] (fun m i => ∃ (I : Int) (X : Nat), -1 ≤ I ∧ I < 32 ∧ i = .int .i64 I ∧ m = .int .u64 (X : Int) ∧ Hid (Down (fun i => bitN a ((i + 32 - n % 32) % 32)) 32 I X)) (fun _ i => (intOf i + 1).toNat)
  case atStart => exact ⟨31, 0, by omega, by omega, rfl, rfl, Lib.hid (Down.start _ 32)⟩
  case round =>
    obtain ⟨I, X, hI1, hI2, rfl, rfl, hD⟩ := hrel
    by_cases hI : 0 ≤ I
    · obtain ⟨q, rfl⟩ := Int.eq_ofNat_of_zero_le hI
      have hX := hD.out.bound (fun i => bitN_le _ _) (by omega)
      have HN : Hid (Down (fun i => bitN a ((i + 32 - n % 32) % 32)) 32 ((q : Int) - 1) (X * 2 + bitN a ((q + 32 - n % 32) % 32))) := Lib.hid (hD.out.next (by omega))
      clear hD
      have HB := Lib.hid (fun W => bit_any a ((q + 32 - n % 32) % 32) W (by omega))
      have hB1 := bitN_le a ((q + 32 - n % 32) % 32)
      have HQ : Hid (((q : Int) - (n : Int)) % 32 = (((q + 32 - n % 32) % 32 : Nat) : Int)) := Lib.hid (by omega)
      generalize bitN a ((q + 32 - n % 32) % 32) = b at *
      generalize (q + 32 - n % 32) % 32 = p at *
      go_wp2_with fail
      rw [HQ.out]
      refine (HB.out _).mono ?_
      rintro e w' ⟨rfl, rfl⟩
      go_wp2
      go_round
      case rel => exact ⟨(q : Int) - 1, X * 2 + b, by omega, by omega, rfl, int_u64 (by omega), HN⟩
      case measure => simp [intOf]
    · have HE := Lib.hid (hD.out.ends hI1 hI)
      clear hD
      go_wp2
      go_ret
      exact ⟨ret_u64 (by rw [HE.out]; rfl), rfl⟩
theorem turned_64 (a n : Nat) (wo : World) (hn : n ≤ 64) :
    Calls Tryd.prog 35 #[.int .u64 (a : Int), .int .i64 (n : Int), .int .i64 64] wo fun e w' => e = .returned (.int .u64 ((turnN a n 64 : Nat) : Int)) ∧ wo = w' := by
  go_enter Tryd.func35, Tryd.ntmps35
  go_wp2
  go_loop [7, 8] (fun m i => ∃ (I : Int) (X : Nat), -1 ≤ I ∧ I < 64 ∧ i = .int .i64 I ∧ m = .int .u64 (X : Int) ∧ Hid (Down (fun i => bitN a ((i + 64 - n % 64) % 64)) 64 I X)) (fun _ i => (intOf i + 1).toNat)
  case atStart => exact ⟨63, 0, by omega, by omega, rfl, rfl, Lib.hid (Down.start _ 64)⟩
  case round =>
    obtain ⟨I, X, hI1, hI2, rfl, rfl, hD⟩ := hrel
    by_cases hI : 0 ≤ I
    · obtain ⟨q, rfl⟩ := Int.eq_ofNat_of_zero_le hI
      have hX := hD.out.bound (fun i => bitN_le _ _) (by omega)
      have HN : Hid (Down (fun i => bitN a ((i + 64 - n % 64) % 64)) 64 ((q : Int) - 1) (X * 2 + bitN a ((q + 64 - n % 64) % 64))) := Lib.hid (hD.out.next (by omega))
      clear hD
      have HB := Lib.hid (fun W => bit_any a ((q + 64 - n % 64) % 64) W (by omega))
      have hB1 := bitN_le a ((q + 64 - n % 64) % 64)
      have HQ : Hid (((q : Int) - (n : Int)) % 64 = (((q + 64 - n % 64) % 64 : Nat) : Int)) := Lib.hid (by omega)
      generalize bitN a ((q + 64 - n % 64) % 64) = b at *
      generalize (q + 64 - n % 64) % 64 = p at *
      go_wp2_with fail
      rw [HQ.out]
      refine (HB.out _).mono ?_
      rintro e w' ⟨rfl, rfl⟩
      go_wp2
      go_round
      case rel => exact ⟨(q : Int) - 1, X * 2 + b, by omega, by omega, rfl, int_u64 (by omega), HN⟩
      case measure => simp [intOf]
    · have HE := Lib.hid (hD.out.ends hI1 hI)
      clear hD
      go_wp2
      go_ret
      exact ⟨ret_u64 (by rw [HE.out]; rfl), rfl⟩
end Go.Proofs.YtbgcafkdojoilaaDoor.Num
