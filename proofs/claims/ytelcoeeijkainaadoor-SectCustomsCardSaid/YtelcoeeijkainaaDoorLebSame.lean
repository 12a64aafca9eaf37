/-
  trammelref01.Same: it tells whether two lists of bytes are the same. Conditions: both lie in memory as a slice's cells, and are fewer than 2^47.
-/
import Derived.Test.YtelcoeeijkainaaDoorLebBytes
namespace Go.Proofs.YtelcoeeijkainaaDoor.Leb
open Go.RowKit

theorem take_next {l l' : List Nat} {k : Nat} (h : k < l.length) (h' : k < l'.length) (ht : l.take k = l'.take k) (he : l[k] = l'[k]) : l.take (k + 1) = l'.take (k + 1) := by
  rw [List.take_succ_eq_append_getElem h, List.take_succ_eq_append_getElem h', ht, he]
set_option maxHeartbeats 1000000 in
theorem same_is (A A' : Option Addr) (l l' : List Nat) (c c' B B' : Nat) (w : World) (hb : Bytes w B A l) (hb' : Bytes w B' A' l') (hlen : l.length ≤ 140737488355328) (hlen' : l'.length ≤ 140737488355328) :
    Calls Tryd.prog 7 #[.slice A l.length c, .slice A' l'.length c'] w fun e w' => e = .returned (.bool (decide (l = l'))) ∧ ∃ m, w' = w.drewN m := by
  by_cases hll : l.length = l'.length
  · have hne : ((l.length : Int) != (l'.length : Int)) = false := by simp; omega
    have HLL := Lib.hid hll
    clear hll
    go_enter Tryd.func7, Tryd.ntmps7
    go_wp2
    go_loopw [5] (fun i wr => ∃ (k m : Nat), k ≤ l.length ∧ i = .int .i64 (k : Int) ∧ Hid (l.take k = l'.take k) ∧ wr = w.drewN m) (fun i _ => l.length - (intOf i).toNat)
    case atStart => exact ⟨0, 0, Nat.zero_le _, rfl, Lib.hid rfl, rfl⟩
    case round =>
      obtain ⟨k, m, hk, rfl, ht, rfl⟩ := hrel
      by_cases hl : k < l.length
      · have hl' : k < l'.length := by have := HLL.out; omega
        obtain ⟨b, off, rfl, _, hcs⟩ := hb.2 (by omega)
        obtain ⟨b', off', rfl, _, hcs'⟩ := hb'.2 (by omega)
        have hc1 := hcs k hl
        have hc2 := hcs' k hl'
        have hli : (k : Int) < (l.length : Int) := by omega
        have hli' : (k : Int) < (l'.length : Int) := by omega
        obtain ⟨x, hx⟩ : ∃ x, x = l[k] := ⟨_, rfl⟩
        obtain ⟨y, hy⟩ : ∃ y, y = l'[k] := ⟨_, rfl⟩
        rw [← hx] at hc1
        rw [← hy] at hc2
        have HX := Lib.hid hx
        have HY := Lib.hid hy
        clear hcs hcs' hb hb' hx hy
        by_cases hxy : x = y
        · subst hxy
          go_wp2
          go_quiet (fail)
          go_wp2
          go_roundw
          case rel => exact ⟨k + 1, _, by omega, by go_num, Lib.hid (take_next hl hl' ht.out (by rw [← HX.out, ← HY.out])), rfl⟩
          case measure => simp [intOf]; omega
        · have hxb : ((x : Int) != (y : Int)) = true := by simp; omega
          have HXY := Lib.hid hxy
          clear hxy
          go_wp2
          go_quiet (fail)
          go_wp2
          go_ret
          refine ⟨ret_bool (decide_eq_false fun h => HXY.out ?_).symm, _, World.drewN_drewN _ _ _⟩
          subst h
          rw [HX.out, HY.out]
      · have hli : ¬ (k : Int) < (l.length : Int) := by omega
        clear hb hb'
        go_wp2
        go_ret
        refine ⟨ret_bool (decide_eq_true ?_).symm, m, rfl⟩
        have h1 := ht.out
        have h2 := HLL.out
        rw [List.take_of_length_le (by omega), List.take_of_length_le (by omega)] at h1
        exact h1
  · have hne : ((l.length : Int) != (l'.length : Int)) = true := by simp; omega
    have HLL := Lib.hid hll
    clear hll
    go_enter Tryd.func7, Tryd.ntmps7
    go_wp2
    go_ret
    exact ⟨ret_bool (decide_eq_false fun h => HLL.out (by rw [h])).symm, 0, rfl⟩
end Go.Proofs.YtelcoeeijkainaaDoor.Leb
