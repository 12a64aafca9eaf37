/-
  leb.most, leb.inLast, leb.gather: what each comes to. Conditions: the bytes lie in memory as a slice's cells; the number of bits is from 1 to 64, or it is not.
-/
import Derived.Test.YtelcoeeijkainaaDoorChecked
import Derived.Test.YtelcoeeijkainaaDoorLebMath
import Derived.Test.YtelcoeeijkainaaDoorLebBase
import Derived.WalkKit
import Derived.Below
import Derived.Lib.Hide
import Derived.Outline
import Derived.IntWalk
namespace Go.Proofs.YtelcoeeijkainaaDoor.Leb
open Go.RowKit

theorem most_any (n : Int) (w : World) (h0 : 0 ≤ n) (h : n ≤ 64) : Calls Tryd.prog 28 #[.int .i64 n] w fun e w' => e = .returned (.int .i64 ((n + 6) / 7)) ∧ w = w' := by
  have h1 : 0 ≤ n + 7 - 1 := by omega
  go_enter Tryd.func28, Tryd.ntmps28
  go_wp2
  go_ret
  exact ⟨ret_int (by omega), rfl⟩
theorem inLast_any (n : Int) (w : World) (h0 : 1 ≤ n) (h : n ≤ 64) : Calls Tryd.prog 29 #[.int .i64 n] w fun e w' => e = .returned (.int .i64 (n - ((n + 6) / 7 - 1) * 7)) ∧ w = w' := by
  go_enter Tryd.func29, Tryd.ntmps29
  go_wp2_with (go_at_call 28; refine (most_any _ _ (by omega) (by omega)).mono ?_; rintro e w' ⟨rfl, rfl⟩)
  go_ret
  exact ⟨ret_int (by omega), rfl⟩

theorem gather_arg (A : Option Addr) (len cap : Nat) (n : Int) (w : World) (h : n < 1 ∨ 64 < n) :
    Calls Tryd.prog 27 #[.slice A len cap, .int .i64 n] w fun e w' => e = .returned (.tuple #[.int .u64 0, .int .i64 0, .int .i64 5]) ∧ w = w' := by
  rcases h with h | h
  · go_enter Tryd.func27, Tryd.ntmps27
    go_wp2
    go_ret3
    exact ⟨rfl, rfl⟩
  · have h' : ¬ n < 1 := by omega
    go_enter Tryd.func27, Tryd.ntmps27
    go_wp2
    go_ret3
    exact ⟨rfl, rfl⟩

/-- What is gathered of bytes: the number (cut to 64 bits), how many bytes, the error. -/
def gath (l : List Nat) (m : Nat) : Nat × Nat × Nat :=
  if m ≤ lead l then (0, 0, 2) else if lead l = l.length then (0, 0, 1) else (gv l (lead l + 1), lead l + 1, 0)

theorem gather_any (A : Option Addr) (l : List Nat) (cap B n : Nat) (w : World) (hb : Bytes w B A l) (h0 : 1 ≤ n) (h64 : n ≤ 64) :
    Calls Tryd.prog 27 #[.slice A l.length cap, .int .i64 (n : Int)] w fun e w' =>
      e = .returned (.tuple #[.int .u64 ((gath l (most n)).1 : Nat), .int .i64 ((gath l (most n)).2.1 : Nat), .int .i64 ((gath l (most n)).2.2 : Nat)]) ∧ w = w' := by
  have hge : ¬ (n : Int) < 1 := by omega
  have hle : ¬ (64 : Int) < n := by omega
  go_enter Tryd.func27, Tryd.ntmps27
  go_wp2_with (go_at_call 28; refine (most_any _ _ (by omega) (by omega)).mono ?_; rintro e w' ⟨rfl, rfl⟩)
  go_loop [7, 17] (fun x i => ∃ k : Nat, k ≤ most n ∧ k ≤ l.length ∧ k ≤ lead l ∧ i = .int .i64 k ∧ x = .int .u64 (gv l k : Nat)) (fun _ i => most n - (intOf i).toNat)
  case atStart => exact ⟨0, Nat.zero_le _, Nat.zero_le _, Nat.zero_le _, rfl, rfl⟩
  case round =>
    obtain ⟨k, hk, hkl, hkd, rfl, rfl⟩ := hrel
    have hmn : most n ≤ 10 := by unfold most; omega
    by_cases hm : k < most n
    · have hmi : (k : Int) < ((n : Int) + 6) / 7 := by unfold most at hm; omega
      by_cases hl : k < l.length
      · obtain ⟨b, off, rfl, hbB, hcs⟩ := hb.2 (by omega)
        have hc := hcs k hl
        have hx := hb.1 l[k] (List.getElem_mem hl)
        have hne : ((k : Int) == (l.length : Int)) = false := by simp; omega
        have hlt : (k : Int) < (l.length : Int) := by omega
        clear hcs
        obtain ⟨x, hxe⟩ : ∃ x, x = l[k] := ⟨_, rfl⟩
        rw [← hxe] at hc hx
        have HX := Lib.hid hxe
        clear hxe
        have hm7 := mask7 x hx
        by_cases hx7 : x < 128
        · have hno := more_no x hx7
          go_wp2
          go_ret3
          have hd : lead l = k := (lead_step l k hl hkd).2 (HX.out ▸ hx7)
          have hg : gath l (most n) = (gv l (k + 1), k + 1, 0) := by
            unfold gath
            rw [if_neg (by omega), if_neg (by omega), hd]
          rw [hg]
          exact ⟨ret_3 (join_x l k x hl (by omega) HX.out) rfl rfl, rfl⟩
        · have hyes := more_yes x (by omega) hx
          go_wp2
          go_round
          case rel => exact ⟨k + 1, by omega, by omega, (lead_step l k hl hkd).1 (by rw [← HX.out]; omega), by go_num, by rw [join_x l k x hl (by omega) HX.out]⟩
          case measure => simp [intOf]; omega
      · have hne : ((k : Int) == (l.length : Int)) = true := by simp; omega
        go_wp2
        go_ret3
        have hd := lead_le l
        have hg : gath l (most n) = (0, 0, 1) := by
          unfold gath
          rw [if_neg (by omega), if_pos (by omega)]
        rw [hg]
        exact ⟨rfl, rfl⟩
    · have hmi : ¬ (k : Int) < ((n : Int) + 6) / 7 := by unfold most at hm; omega
      go_wp2
      go_ret3
      have hg : gath l (most n) = (0, 0, 2) := by
        unfold gath
        rw [if_pos (by omega)]
      rw [hg]
      exact ⟨rfl, rfl⟩
end Go.Proofs.YtelcoeeijkainaaDoor.Leb
