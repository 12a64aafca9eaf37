/-
  trammelref01.U comes to what leb.U comes to. Conditions: the bytes lie in memory as a slice's cells; the number of bits is from 1 to 64, or it is not.
-/
import Derived.Test.YtelcoeeijkainaaDoorLebRead
import Derived.Test.YtelcoeeijkainaaDoorLebBackU
namespace Go.Proofs.YtelcoeeijkainaaDoor.Leb
open Go.RowKit

/-- V below place k. -/
def low (V k : Nat) : Nat := V % 2 ^ k
theorem low_next (V k : Nat) (h : bitAt V k = false) : low V (k + 1) = low V k := by
  unfold low; rw [mod_step, h]; simp
theorem low_more (V k : Nat) (h : bitAt V k = true) : low V (k + 1) = low V k + 2 ^ k := by
  unfold low; rw [mod_step, h]; simp
theorem low_ge (V k : Nat) (h : bitAt V k = true) : 2 ^ k ≤ V := by
  have h1 := low_more V k h
  have h2 : low V (k + 1) ≤ V := Nat.mod_le _ _
  omega
theorem low_all (V k : Nat) (h : V < 2 ^ k) : low V k = V := Nat.mod_eq_of_lt h
theorem add_low (V k : Nat) (hk : k < 64) (h : bitAt V k = true) : IntKind.u64.wrap ((low V k : Nat) + IntKind.u64.wrap (2 ^ k) : Int) = ((low V (k + 1) : Nat) : Int) := by
  have h1 : low V k < 2 ^ k := Nat.mod_lt _ (Nat.pow_pos (by omega))
  have h2 : (2 : Nat) ^ k ≤ 2 ^ 63 := Nat.pow_le_pow_right (by omega) (by omega)
  have e : (2 : Int) ^ k = ((2 ^ k : Nat) : Int) := by simp
  rw [low_more V k h, e, IntKind.wrap_u64, IntKind.wrap_u64]
  generalize 2 ^ k = P at *
  omega
/-- leb.U's answer, told by what the bytes are worth. -/
theorem uRes_val (l : List Nat) (n : Nat) (h0 : 1 ≤ n) (h64 : n ≤ 64) (hm : lead l < most n) (hl : lead l < l.length) :
    uRes l n = if val (l.take (lead l + 1)) < 2 ^ n then (val (l.take (lead l + 1)), lead l + 1, 0) else (0, 0, 2) := by
  obtain ⟨hm1, hmi⟩ := most_inl n h0
  have hg : gath l (most n) = (gv l (lead l + 1), lead l + 1, 0) := by
    unfold gath
    rw [if_neg (by omega), if_neg (by omega)]
  have hlt := val_take_lt l (lead l + 1)
  have h2 : (2 : Nat) ^ n ≤ 2 ^ 64 := Nat.pow_le_pow_right (by omega) h64
  unfold uRes
  rw [hg, if_pos rfl]
  by_cases hs : lead l + 1 = most n
  · have hlast : l.getD (most n - 1) 0 = l[lead l] := by
      rw [← hs, Nat.add_sub_cancel, List.getD, List.getElem?_eq_getElem hl]; rfl
    have hx := lead_lt l hl
    have hv := val_take l (lead l) hl
    have hv0 := val_take_lt l (lead l)
    rw [Nat.mod_eq_of_lt hx] at hv
    have e : (2 : Nat) ^ n = 2 ^ (7 * lead l) * 2 ^ inl n := by rw [← Nat.pow_add]; congr 1; omega
    have hiff : val (l.take (lead l + 1)) < 2 ^ n ↔ l[lead l] / 2 ^ inl n = 0 := by
      rw [Nat.div_eq_zero_iff_lt (Nat.pow_pos (by omega)), hv, e]
      constructor
      · intro h
        rcases Nat.lt_or_ge l[lead l] (2 ^ inl n) with h3 | h3
        · exact h3
        · have := Nat.mul_le_mul_left (2 ^ (7 * lead l)) h3
          rw [Nat.mul_comm (2 ^ (7 * lead l)) l[lead l]] at this
          omega
      · intro h
        have h3 : (l[lead l] + 1) * 2 ^ (7 * lead l) ≤ 2 ^ inl n * 2 ^ (7 * lead l) := Nat.mul_le_mul_right _ h
        rw [Nat.add_mul, Nat.mul_comm (2 ^ inl n)] at h3
        omega
    by_cases hc : val (l.take (lead l + 1)) < 2 ^ n
    · rw [if_pos hc, if_neg (by rw [hlast]; exact fun h => h.2 (hiff.1 hc))]
      unfold gv
      rw [Nat.mod_eq_of_lt (by unfold big; omega)]
    · rw [if_neg hc, if_pos ⟨hs, by rw [hlast]; exact fun h => hc (hiff.2 h)⟩]
  · have hp : (2 : Nat) ^ (7 * (lead l + 1)) ≤ 2 ^ n := Nat.pow_le_pow_right (by omega) (by omega)
    rw [if_neg (fun h => hs h.1), if_pos (by omega)]
    unfold gv
    rw [Nat.mod_eq_of_lt (by unfold big; omega)]
/-- A call returns an unsigned number, how many bytes it has and its error, and changes nothing that was there. -/
def TellsU (w : World) (r : Nat × Nat × Nat) (e : Ending) (w' : World) : Prop := e = .returned (.tuple #[.int .u64 (r.1 : Int), .int .i64 (r.2.1 : Int), .int .i64 (r.2.2 : Int)]) ∧ Below w.heap.size w w'
theorem rU_arg (A : Option Addr) (len cap : Nat) (n : Int) (w : World) (h : n < 1 ∨ 64 < n) :
    Calls Tryd.prog 24 #[.slice A len cap, .int .i64 n] w (TellsU w (0, 0, 5)) := by
  go_enter Tryd.func24, Tryd.ntmps24
  go_wp2_with (go_at_call 31; refine (read_arg _ _ _ _ _ h).mono ?_; rintro e w' ⟨rfl, rfl⟩)
  go_ret3
  exact ⟨rfl, Below.refl _ _⟩
set_option maxHeartbeats 2000000 in
set_option maxRecDepth 100000 in
theorem rU_any (A : Option Addr) (l : List Nat) (cap n : Nat) (w : World) (hb : Bytes w w.heap.size A l) (h0 : 1 ≤ n) (h64 : n ≤ 64) :
    Calls Tryd.prog 24 #[.slice A l.length cap, .int .i64 (n : Int)] w (TellsU w (uRes l n)) := by
  go_enter Tryd.func24, Tryd.ntmps24
  go_wp2_with fail
  refine (read_any A l cap n w hb h0 h64).mono ?_
  rintro e w1 (⟨hm, rfl, hbel⟩ | ⟨hm, hl, rfl, hbel⟩ | ⟨hm, hl, g, c, rfl, hbits, hbel⟩)
  · have hr : uRes l n = (0, 0, 2) := by
      have hg : gath l (most n) = (0, 0, 2) := if_pos hm
      unfold uRes
      rw [hg]; rfl
    have HR := Lib.hid hr
    clear hr
    go_wp2
    go_ret3
    exact ⟨by rw [HR.out]; rfl, hbel⟩
  · have hr : uRes l n = (0, 0, 1) := by
      have hg : gath l (most n) = (0, 0, 1) := by unfold gath; rw [if_neg (by omega), if_pos hl]
      unfold uRes
      rw [hg]; rfl
    have HR := Lib.hid hr
    clear hl hr
    go_wp2
    go_ret3
    exact ⟨by rw [HR.out]; rfl, hbel⟩
  · have HR := Lib.hid (uRes_val l n h0 h64 hm hl)
    have HV := Lib.hid (val_take_lt l (lead l + 1))
    have hs : lead l + 1 ≤ 10 := by unfold most at hm; omega
    generalize uRes l n = r at *
    generalize lead l + 1 = s at *
    generalize val (l.take s) = V at *
    clear hm hl hb
    go_wp2
    go_loop [10, 11] (fun x i => ∃ k : Nat, k ≤ 7 * s ∧ i = .int .i64 (k : Int) ∧ x = .int .u64 ((low V k : Nat) : Int) ∧ Hid (low V k < 2 ^ n)) (fun _ i => 7 * s - (intOf i).toNat)
    case atStart => exact ⟨0, by omega, rfl, by simp [low, Nat.mod_one], Lib.hid (by simp [low, Nat.mod_one]; exact Nat.pow_pos (by omega))⟩
    case round =>
      obtain ⟨k, hk, rfl, rfl, hlow⟩ := hrel
      by_cases hk7 : k < 7 * s
      · have hc := hbits.2 k hk7
        have hk7i : (k : Int) < ((7 * s : Nat) : Int) := by omega
        clear hbits
        cases hbit : bitAt V k with
        | false =>
          rw [hbit] at hc
          have HB := Lib.hid hbit
          clear hbit
          go_wp2
          go_round
          case rel => exact ⟨k + 1, by omega, by go_num, by rw [low_next V k HB.out], by rw [low_next V k HB.out]; exact hlow⟩
          case measure => simp [intOf]; omega
        | true =>
          rw [hbit] at hc
          have HB := Lib.hid hbit
          clear hbit
          by_cases hkn : (n : Int) ≤ (k : Int)
          · go_wp2
            go_ret3
            have h1 := low_ge V k HB.out
            have h2 : (2 : Nat) ^ n ≤ 2 ^ k := Nat.pow_le_pow_right (by omega) (by omega)
            have hr : r = (0, 0, 2) := by rw [HR.out, if_neg (by omega)]
            rw [hr]
            exact ⟨rfl, hbel⟩
          · go_wp2
            go_round
            case rel => exact ⟨k + 1, by omega, by go_num, by rw [add_low V k (by omega) HB.out], Lib.hid (by
                have h1 := low_more V k HB.out
                have h2 : low V k < 2 ^ k := Nat.mod_lt _ (Nat.pow_pos (by omega))
                have h3 : (2 : Nat) ^ (k + 1) ≤ 2 ^ n := Nat.pow_le_pow_right (by omega) (by omega)
                rw [Nat.pow_succ] at h3
                omega)⟩
            case measure => simp [intOf]; omega
      · have hk7i : ¬ (k : Int) < ((7 * s : Nat) : Int) := by omega
        obtain rfl : k = 7 * s := by omega
        clear hbits
        go_wp2
        go_ret3
        have h1 := low_all V (7 * s) HV.out
        have h2 := hlow.out
        rw [h1] at h2 ⊢
        have hr : r = (V, s, 0) := by rw [HR.out, if_pos h2]
        rw [hr]
        exact ⟨rfl, hbel⟩
theorem uRes_32 (l : List Nat) (h : (uRes l 32).2.2 = 0) : (uRes l 32).1 < 4294967296 ∧ 1 ≤ (uRes l 32).2.1 ∧ (uRes l 32).2.1 ≤ l.length := by
  obtain ⟨v, s, e, hg, _, hs⟩ := gath_cases l (most 32)
  by_cases he : e = 0
  · subst he
    obtain ⟨hs1, hsm, hsl⟩ := hs rfl
    have hlead : lead l < most 32 ∧ lead l < l.length := by
      unfold gath at hg
      have hl := lead_le l
      by_cases h1 : most 32 ≤ lead l
      · rw [if_pos h1] at hg; simp at hg
      · rw [if_neg h1] at hg
        by_cases h2 : lead l = l.length
        · rw [if_pos h2] at hg; simp at hg
        · omega
    have hv := uRes_val l 32 (by omega) (by omega) hlead.1 hlead.2
    by_cases hc : val (l.take (lead l + 1)) < 2 ^ 32
    · rw [if_pos hc] at hv
      rw [hv]
      exact ⟨hc, by simp, by simp; omega⟩
    · rw [if_neg hc] at hv
      rw [hv] at h
      simp at h
  · unfold uRes at h
    rw [hg, if_neg he] at h
    exact absurd h he
end Go.Proofs.YtelcoeeijkainaaDoor.Leb
