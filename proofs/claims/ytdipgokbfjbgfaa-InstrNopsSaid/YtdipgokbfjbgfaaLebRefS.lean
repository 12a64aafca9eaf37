/-
  trammelref01.S comes to what leb.S comes to. Conditions: the bytes lie in memory as a slice's cells; the number of bits is from 1 to 64, or it is not.
-/
import Derived.Test.YtdipgokbfjbgfaaLebRefU
import Derived.Test.YtdipgokbfjbgfaaLebSignMath
namespace Go.Proofs.Ytdipgokbfjbgfaa.Leb
open Go.RowKit

/-- A call returns a signed number, how many bytes it has and its error, and changes nothing that was there. -/
def TellsS (w : World) (r : Int × Nat × Nat) (e : Ending) (w' : World) : Prop := e = .returned (.tuple #[.int .i64 r.1, .int .i64 (r.2.1 : Int), .int .i64 (r.2.2 : Int)]) ∧ Below w.heap.size w w'
theorem rS_arg (A : Option Addr) (len cap : Nat) (n : Int) (w : World) (h : n < 1 ∨ 64 < n) :
    Calls Try.prog 50 #[.slice A len cap, .int .i64 n] w (TellsS w (0, 0, 5)) := by
  go_enter Try.func50, Try.ntmps50
  go_wp2_with (go_at_call 68; refine (read_arg _ _ _ _ _ h).mono ?_; rintro e w' ⟨rfl, rfl⟩)
  go_ret3
  exact ⟨rfl, Below.refl _ _⟩
theorem agree_step {V n k : Nat} (h : Agree V n k) (he : bitAt V k = bitAt V (n - 1)) : Agree V n (k + 1) := by
  intro i hi hi'
  rcases Nat.lt_or_ge i k with h1 | h1
  · exact h i hi h1
  · obtain rfl : i = k := by omega
    exact he
theorem Bits.drewN {w : World} {g V n : Nat} (h : Bits w g V n) (k : Nat) : Bits (w.drewN k) g V n := h
set_option maxHeartbeats 4000000 in
set_option maxRecDepth 100000 in
theorem rS_any (A : Option Addr) (l : List Nat) (cap n : Nat) (w : World) (hb : Bytes w w.heap.size A l) (h0 : 1 ≤ n) (h64 : n ≤ 64) :
    Calls Try.prog 50 #[.slice A l.length cap, .int .i64 (n : Int)] w (TellsS w (sRes l n)) := by
  go_enter Try.func50, Try.ntmps50
  go_wp2_with fail
  refine (read_any A l cap n w hb h0 h64).mono ?_
  rintro e w1 (⟨hm, rfl, hbel⟩ | ⟨hm, hl, rfl, hbel⟩ | ⟨hm, hl, g, c, rfl, hbits, hbel⟩)
  · have hr : sRes l n = (0, 0, 2) := by
      have hg : gath l (most n) = (0, 0, 2) := if_pos hm
      unfold sRes
      rw [hg]; rfl
    have HR := Lib.hid hr
    clear hr
    go_wp2
    go_ret3
    exact ⟨by rw [HR.out]; rfl, hbel⟩
  · have hr : sRes l n = (0, 0, 1) := by
      have hg : gath l (most n) = (0, 0, 1) := by unfold gath; rw [if_neg (by omega), if_pos hl]
      unfold sRes
      rw [hg]; rfl
    have HR := Lib.hid hr
    clear hl hr
    go_wp2
    go_ret3
    exact ⟨by rw [HR.out]; rfl, hbel⟩
  · have HR := Lib.hid (sRes_bits l n h0 h64 hm hl)
    have HV := Lib.hid (val_take_lt l (lead l + 1))
    have hN1 : 1 ≤ 7 * (lead l + 1) := by omega
    have hN70 : 7 * (lead l + 1) ≤ 70 := by unfold most at hm; omega
    generalize sRes l n = r at *
    generalize lead l + 1 = s at *
    generalize val (l.take s) = V at *
    generalize 7 * s = N at *
    clear hm hl hb
    go_wp2
    go_loopw [10] (fun i wr => ∃ k : Nat, n ≤ k ∧ (k ≤ N ∨ k = n) ∧ i = .int .i64 (k : Int) ∧ Hid (Agree V n k) ∧ Bits wr g V N ∧ Below w.heap.size w wr) (fun i _ => N - (intOf i).toNat)
    case atStart => exact ⟨n, Nat.le_refl _, .inr rfl, rfl, Lib.hid (fun i hi hi' => by omega), hbits, hbel⟩
    case round =>
      obtain ⟨k, hnk, hk, rfl, hag, hbits, hbel⟩ := hrel
      by_cases hk7 : k < N
      · have hc1 := hbits.2 k hk7
        have hc2 := hbits.2 (n - 1) (by omega)
        have hk7i : (k : Int) < (N : Int) := by omega
        have hn7i : (n : Int) - 1 < (N : Int) := by omega
        have hn0i : 0 ≤ (n : Int) - 1 := by omega
        have hw1 : IntKind.i64.wrap ((n : Int) - 1) = (n : Int) - 1 := IntWalk.i64_in _ (by omega)
        have hw2 : ((n : Int) - 1).toNat = n - 1 := by omega
        have Hbits := Lib.hid hbits
        clear hbits
        cases hb1 : bitAt V k <;> cases hb2 : bitAt V (n - 1) <;> rw [hb1] at hc1 <;> rw [hb2] at hc2
        · have HE : Hid (bitAt V k = bitAt V (n - 1)) := Lib.hid (by rw [hb1, hb2])
          clear hb1 hb2
          go_wp2
          go_quiet (fail)
          go_wp2
          go_roundw
          case rel => exact ⟨k + 1, by omega, by omega, by go_num, Lib.hid (agree_step hag.out HE.out), Hbits.out.drewN _, below_drewN hbel _⟩
          case measure => simp [intOf]; omega
        · have HE : Hid (bitAt V k ≠ bitAt V (n - 1)) := Lib.hid (by rw [hb1, hb2]; simp)
          clear hb1 hb2
          go_wp2
          go_quiet (fail)
          go_wp2
          go_ret3
          have hr : r = (0, 0, 2) := HR.out.2 (fun h => HE.out (h k hnk hk7))
          rw [hr]
          exact ⟨rfl, below_drewN hbel _⟩
        · have HE : Hid (bitAt V k ≠ bitAt V (n - 1)) := Lib.hid (by rw [hb1, hb2]; simp)
          clear hb1 hb2
          go_wp2
          go_quiet (fail)
          go_wp2
          go_ret3
          have hr : r = (0, 0, 2) := HR.out.2 (fun h => HE.out (h k hnk hk7))
          rw [hr]
          exact ⟨rfl, below_drewN hbel _⟩
        · have HE : Hid (bitAt V k = bitAt V (n - 1)) := Lib.hid (by rw [hb1, hb2])
          clear hb1 hb2
          go_wp2
          go_quiet (fail)
          go_wp2
          go_roundw
          case rel => exact ⟨k + 1, by omega, by omega, by go_num, Lib.hid (agree_step hag.out HE.out), Hbits.out.drewN _, below_drewN hbel _⟩
          case measure => simp [intOf]; omega
      · have hk7i : ¬ (k : Int) < (N : Int) := by omega
        have HR2 : Hid (r = (wrap64 (sgn V N), s, 0)) := Lib.hid (HR.out.1 (fun i hi hi' => hag.out i hi (by omega)))
        have HC := Lib.hid hbits.2
        clear HR hag hbits
        go_wp2
        go_loop [11, 12] (fun x i => ∃ j : Nat, j ≤ 64 ∧ i = .int .i64 ((j : Int) - 1) ∧ x = .int .i64 (acc (two V N) j)) (fun _ i => (intOf i + 1).toNat)
        case atStart => exact ⟨64, Nat.le_refl _, rfl, by rw [acc_start _ (by unfold two; omega)]⟩
        case round =>
          obtain ⟨j, hj, rfl, rfl⟩ := hrel
          have hcl := HC.out (N - 1) (by omega)
          have hNi : (N : Int) - 1 < (N : Int) := by omega
          have hN0 : 0 ≤ (N : Int) - 1 := by omega
          have hNt : ((N : Int) - 1).toNat = N - 1 := by omega
          cases j with
          | zero =>
            have hz : (((0 : Nat) : Int) - 1) = -1 := rfl
            rw [hz]
            clear hz
            go_wp2
            go_ret3
            rw [HR2.out, acc_end]
            exact ⟨rfl, hbel⟩
          | succ q =>
            rw [show (((q + 1 : Nat) : Int) - 1) = (q : Int) from by omega]
            by_cases hq : q < N
            · have hcq := HC.out q hq
              have hqi : (q : Int) < (N : Int) := by omega
              have hbq := two_bit V N q (by omega) HV.out (by omega)
              rw [if_pos hq] at hbq
              cases hb1 : bitAt V q
              · rw [hb1] at hcq hbq
                have HB := Lib.hid hbq
                clear hb1 hbq
                go_wp2
                go_round
                case rel => exact ⟨q, by omega, rfl, by rw [acc_none _ _ HB.out]⟩
                case measure => simp [intOf]
              · rw [hb1] at hcq hbq
                have HB := Lib.hid hbq
                clear hb1 hbq
                go_wp2
                go_round
                case rel => exact ⟨q, by omega, rfl, by rw [acc_one _ _ HB.out]⟩
                case measure => simp [intOf]
            · have hqi : ¬ (q : Int) < (N : Int) := by omega
              have hbq := two_bit V N q (by omega) HV.out (by omega)
              rw [if_neg hq] at hbq
              cases hb1 : bitAt V (N - 1)
              · rw [hb1] at hcl hbq
                have HB := Lib.hid hbq
                clear hb1 hbq
                go_wp2
                go_round
                case rel => exact ⟨q, by omega, rfl, by rw [acc_none _ _ HB.out]⟩
                case measure => simp [intOf]
              · rw [hb1] at hcl hbq
                have HB := Lib.hid hbq
                clear hb1 hbq
                go_wp2
                go_round
                case rel => exact ⟨q, by omega, rfl, by rw [acc_one _ _ HB.out]⟩
                case measure => simp [intOf]
end Go.Proofs.Ytdipgokbfjbgfaa.Leb
