/-
  trammelref01.Copy, Same, PutU: what each comes to. Conditions: the given bytes lie in memory as a slice's cells, and are fewer than 2^46.
-/
import Derived.Test.YtelcoeeijkainaaDoorLebPut
namespace Go.Proofs.YtelcoeeijkainaaDoor.Leb
open Go.RowKit

theorem own_empty (w : World) : Own (w.alloc (.cells #[] 5)) w.heap.size (.slice (some ⟨w.heap.size, 0, none⟩) 0 0) [] :=
  World.ownsRow_lit w #[] 0 (Nat.le_refl _) (by simp [maxLen]) rfl
set_option maxHeartbeats 1000000 in
theorem same_any (A A' : Option Addr) (l : List Nat) (c c' B B' : Nat) (w : World) (hb : Bytes w B A l) (hb' : Bytes w B' A' l) (hlen : l.length ≤ 140737488355328) :
    Calls Tryd.prog 7 #[.slice A l.length c, .slice A' l.length c'] w fun e w' => e = .returned (.bool true) ∧ ∃ m, w' = w.drewN m := by
  go_enter Tryd.func7, Tryd.ntmps7
  go_wp2
  go_loopw [5] (fun i wr => ∃ (k m : Nat), k ≤ l.length ∧ i = .int .i64 (k : Int) ∧ wr = w.drewN m) (fun i _ => l.length - (intOf i).toNat)
  case atStart => exact ⟨0, 0, Nat.zero_le _, rfl, rfl⟩
  case round =>
    obtain ⟨k, m, hk, rfl, rfl⟩ := hrel
    by_cases hl : k < l.length
    · obtain ⟨b, off, rfl, _, hcs⟩ := hb.2 (by omega)
      obtain ⟨b', off', rfl, _, hcs'⟩ := hb'.2 (by omega)
      have hc1 := hcs k hl
      have hc2 := hcs' k hl
      have hli : (k : Int) < (l.length : Int) := by omega
      generalize l[k] = x at *
      clear hcs hcs' hb hb'
      go_wp2
      go_quiet (fail)
      go_wp2
      go_roundw
      case rel => exact ⟨k + 1, _, by omega, by go_num, rfl⟩
      case measure => simp [intOf]; omega
    · have hli : ¬ (k : Int) < (l.length : Int) := by omega
      clear hb hb'
      go_wp2
      go_ret
      exact ⟨rfl, m, rfl⟩
end Go.Proofs.YtelcoeeijkainaaDoor.Leb
