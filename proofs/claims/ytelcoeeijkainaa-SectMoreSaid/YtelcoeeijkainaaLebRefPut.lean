/-
  trammelref01.Copy, Same, PutU: what each comes to. Conditions: the given bytes lie in memory as a slice's cells, and are fewer than 2^46.
-/
import Derived.Test.YtelcoeeijkainaaLebPut
namespace Go.Proofs.Ytelcoeeijkainaa.Leb
open Go.RowKit

theorem own_empty (w : World) : Own (w.alloc (.cells #[] 5)) w.heap.size (.slice (some ⟨w.heap.size, 0, none⟩) 0 0) [] :=
  World.ownsRow_lit w #[] 0 (Nat.le_refl _) (by simp [maxLen]) rfl
theorem copy_any (A : Option Addr) (l : List Nat) (c : Nat) (w : World) (hb : Bytes w w.heap.size A l) (hc : A = none → c = 0) (hl : l.length ≤ 70368744177664) :
    Calls Try.prog 20 #[.slice A l.length c] w (Gives w l) := by
  have hbel : Below w.heap.size w (w.alloc (.cells #[] 5)) := (Below.refl _ _).alloc (Nat.le_refl _) _
  have HO := Lib.hid (own_empty w)
  go_enter Try.func20, Try.ntmps20
  go_wp2_with (at_builtin; refine app_bytes rfl (.tmp 3) (.tmp 4) rfl w.heap.size _ [] rfl HO.out A l c w.heap.size rfl (hb.below hbel) hc (by simp; omega) hbel.size ?_; intro v2 w2 hown2 hbel2)
  go_ret
  exact ⟨v2, rfl, hown2, hbel.trans hbel2⟩
set_option maxHeartbeats 1000000 in
theorem same_any (A A' : Option Addr) (l : List Nat) (c c' B B' : Nat) (w : World) (hb : Bytes w B A l) (hb' : Bytes w B' A' l) (hlen : l.length ≤ 140737488355328) :
    Calls Try.prog 15 #[.slice A l.length c, .slice A' l.length c'] w fun e w' => e = .returned (.bool true) ∧ ∃ m, w' = w.drewN m := by
  go_enter Try.func15, Try.ntmps15
  go_wp2
  go_loopw [5] (fun i wr => ∃ (k m : Nat), k ≤ l.length ∧ i = .int .i64 (k : Int) ∧ wr = w.drewN m) (fun i _ => l.length - (intOf i).toNat)
  case atStart => exact ⟨0, 0, Nat.zero_le _, rfl, rfl⟩
  case round =>
    obtain ⟨k, m, hk, rfl, rfl⟩ := hrel
    by_cases hl : k < l.length
    · obtain ⟨b, off, rfl, _, hcs⟩ := hb.2 (by omega)
      obtain ⟨b', off', rfl, _, hcs'⟩ := hb'.2 (by omega)
      have hc1 := hcs k hl
      have hc2 := hcs' k hl
      have hli : (k : Int) < (l.length : Int) := by omega
      generalize l[k] = x at *
      clear hcs hcs' hb hb'
      go_wp2
      go_quiet (fail)
      go_wp2
      go_roundw
      case rel => exact ⟨k + 1, _, by omega, by go_num, rfl⟩
      case measure => simp [intOf]; omega
    · have hli : ¬ (k : Int) < (l.length : Int) := by omega
      clear hb hb'
      go_wp2
      go_ret
      exact ⟨rfl, m, rfl⟩
set_option maxHeartbeats 1000000 in
theorem rputU_any (n : Nat) (w : World) (hn : n < 18446744073709551616) : Calls Try.prog 23 #[.int .u64 (n : Int)] w (Gives w (putU n)) := by
  have Hn := Lib.hid hn
  clear hn
  go_enter Try.func23, Try.ntmps23
  go_wp2
  go_loopw [0, 3] (fun x v wr => ∃ (f m : Nat) (k : List Nat), m < 128 ^ (f + 1) ∧ f ≤ 9 ∧ x = .int .u64 (m : Int) ∧ Own wr w.heap.size v k ∧ k ++ putUf f m = putU n ∧ Hid (m < 18446744073709551616) ∧ Below w.heap.size w wr) (fun x _ _ => (intOf x).toNat)
  case atStart => exact ⟨9, n, [], by have := Hn.out; omega, by omega, rfl, Own.nil _ _, rfl, Hn, Below.refl _ _⟩
  case round =>
    obtain ⟨f, m, k, hm, hf, rfl, hown, hk, hm64, hbel⟩ := hrel
    have hsz := hbel.size
    have hkl : k.length ≤ 10 := by
      have h1 := congrArg List.length hk
      have h2 := putUf_len 9 n
      have h3 := putUf_len f m
      simp only [List.length_append, putU] at h1
      omega
    by_cases h7 : m ≤ 127
    · have hz : ((m : Int) / 128 == 0) = true := by rw [beq_iff_eq]; omega
      have hfin : putUf f m = [m] := by
        cases f with
        | zero => simp only [putUf]; rw [Nat.mod_eq_of_lt (by omega)]
        | succ f => simp only [putUf]; rw [if_pos (by omega)]
      rw [hfin] at hk
      have HK := Lib.hid hk
      have hy : (m : Int) % 128 = (m : Int) := by omega
      clear hk hfin hm
      go_wp2_with (at_builtin; refine app_bytes rfl (.tmp 12) (.tmp 14) rfl w.heap.size _ k rfl (hown.alloc _) _ [m] 1 _ rfl (bytes_one _ m (by omega) _) (fun h => by cases h) (by simp; omega) (by simp; omega) ?_; intro v1 w1 hown1 hbel1)
      go_ret
      rw [HK.out] at hown1
      exact ⟨v1, rfl, hown1, (hbel.alloc hsz _).trans hbel1⟩
    · have hz : ((m : Int) / 128 == 0) = false := by rw [beq_eq_false_iff_ne]; omega
      cases f with
      | zero => simp at hm; omega
      | succ f =>
        obtain ⟨y, hye⟩ : ∃ y, y = m % 128 := ⟨_, rfl⟩
        obtain ⟨z, hze⟩ : ∃ z, z = y + 128 := ⟨_, rfl⟩
        have hstep : putUf (f + 1) m = z :: putUf f (m / 128) := by simp only [putUf]; rw [if_neg (by omega), hze, hye]
        have hwd : IntKind.u64.wrap ((m : Int) / 128) = (m : Int) / 128 := by
          have := hm64.out
          rw [IntKind.wrap_u64]; omega
        have hy : (m : Int) % 128 = (y : Int) := by omega
        have hz' : (y : Int) + 128 = (z : Int) := by omega
        have hy128 : y < 128 := by omega
        have hz256 : z < 256 := by omega
        rw [hstep] at hk
        have HK := Lib.hid hk
        have HM := Lib.hid hm
        clear hk hstep hm hye hze
        go_wp2_with (at_builtin; refine app_bytes rfl (.tmp 16) (.tmp 19) rfl w.heap.size _ k rfl (hown.alloc _) _ [z] 1 _ rfl (bytes_one _ z (by omega) _) (fun h => by cases h) (by simp; omega) (by simp; omega) ?_; intro v1 w1 hown1 hbel1)
        go_roundw
        case rel => exact ⟨f, m / 128, k ++ [z], by have := HM.out; rw [Nat.pow_succ] at this; omega, by omega, by go_num, hown1, by rw [← HK.out]; simp, Lib.hid (by have := hm64.out; omega), (hbel.alloc hsz _).trans hbel1⟩
        case measure => simp [intOf]; omega
end Go.Proofs.Ytelcoeeijkainaa.Leb
