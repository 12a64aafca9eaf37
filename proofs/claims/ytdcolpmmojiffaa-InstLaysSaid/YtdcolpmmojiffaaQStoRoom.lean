/-
  StoRoom: The given room: whether the places lie within so many. Conditions: numbers of 64 bits, a length that memory holds.
-/
import Derived.Test.YtdcolpmmojiffaaQStoSame
namespace Go.Proofs.Ytdcolpmmojiffaa.Sto
open Go.RowKit Leb Typ

def roomB (at' n many : Nat) : Bool := decide (at' ≤ many) && decide (n ≤ many) && decide (at' + n ≤ many)
theorem roomB_iff (at' n many : Nat) : roomB at' n many = true ↔ at' + n ≤ many := by
  unfold roomB
  simp only [Bool.and_eq_true, decide_eq_true_eq]
  omega
set_option maxRecDepth 100000 in
set_option maxHeartbeats 4000000 in
theorem rroom_any (at' n many : Nat) (w : World) (ha : at' ≤ 18446744073709551615) (hn : n ≤ 18446744073709551615) (hm : many ≤ 140737488355328) : Calls Try.prog 19 #[.int .u64 (at' : Int), .int .u64 (n : Int), .int .i64 (many : Int)] w fun e w' => e = .returned (.bool (roomB at' n many)) ∧ w' = w := by
  have hw : IntKind.u64.wrap (many : Int) = (many : Int) := by rw [IntKind.wrap_u64]; omega
  by_cases h1 : at' ≤ many
  · have h1' : (at' : Int) ≤ (many : Int) := by omega
    by_cases h2 : n ≤ many
    · have h2' : (n : Int) ≤ (many : Int) := by omega
      have hw2 : IntKind.u64.wrap ((at' : Int) + (n : Int)) = (at' : Int) + (n : Int) := by rw [IntKind.wrap_u64]; omega
      by_cases h3 : at' + n ≤ many
      · have h3' : (at' : Int) + (n : Int) ≤ (many : Int) := by omega
        have hr : roomB at' n many = true := by unfold roomB; rw [decide_eq_true h1, decide_eq_true h2, decide_eq_true h3]; rfl
        rw [hr]
        go_enter Try.func19, Try.ntmps19
        go_wp2
        go_ret
        exact ⟨rfl, rfl⟩
      · have h3' : ¬ (at' : Int) + (n : Int) ≤ (many : Int) := by omega
        have hr : roomB at' n many = false := by unfold roomB; rw [decide_eq_true h1, decide_eq_true h2, decide_eq_false h3]; rfl
        rw [hr]
        go_enter Try.func19, Try.ntmps19
        go_wp2
        go_ret
        exact ⟨rfl, rfl⟩
    · have h2' : ¬ (n : Int) ≤ (many : Int) := by omega
      have hr : roomB at' n many = false := by unfold roomB; rw [decide_eq_true h1, decide_eq_false h2]; rfl
      rw [hr]
      go_enter Try.func19, Try.ntmps19
      go_wp2
      go_ret
      exact ⟨rfl, rfl⟩
  · have h1' : ¬ (at' : Int) ≤ (many : Int) := by omega
    have hr : roomB at' n many = false := by unfold roomB; rw [decide_eq_false h1]; rfl
    rw [hr]
    go_enter Try.func19, Try.ntmps19
    go_wp2
    go_ret
    exact ⟨rfl, rfl⟩
end Go.Proofs.Ytdcolpmmojiffaa.Sto
