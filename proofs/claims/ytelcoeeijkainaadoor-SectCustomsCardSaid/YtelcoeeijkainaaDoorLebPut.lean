/-
  leb.fresh, leb.PutU: what each comes to: new bytes, the given ones and, behind them, the number's. Condition: the given bytes lie in memory as a slice's cells, and are fewer than 2^46.
-/
import Derived.Test.YtelcoeeijkainaaDoorLebOwn
import Derived.Test.YtelcoeeijkainaaDoorLebPutMath
import Derived.Test.YtelcoeeijkainaaDoorLebGather
namespace Go.Proofs.YtelcoeeijkainaaDoor.Leb
open Go.RowKit

theorem fresh_any (A : Option Addr) (l : List Nat) (c : Nat) (w : World) (hb : Bytes w w.heap.size A l) (hc : A = none → c = 0) (hl : l.length ≤ 70368744177664) :
    Calls Tryd.prog 26 #[.slice A l.length c] w (Gives w l) := by
  obtain ⟨i0, hi0, hz0, hz1, hz2⟩ := info_parts u8_info
  have Hi := Lib.hid hz2
  clear hz2
  go_enter Tryd.func26, Tryd.ntmps26
  go_wp2_with (first
    | (go_at_call 28; refine (most_any _ _ (by omega) (by omega)).mono ?_; rintro e w' ⟨rfl, rfl⟩)
    | (at_make; refine wpList_make_own _ rfl _ _ 22 rfl w.heap.size 5 i0 (.int .u8 0) 1 Tryd.underlying22 hi0 hz0 hz1 _ _ _ (l.length + 10) rfl rfl (by omega) (by rw [Hi.out]; omega) (by simp only [maxLen]; omega) (Nat.le_refl _) ?_; intro w1 hown1 hgrow1)
    | (at_builtin; refine app_bytes rfl (.tmp 9) (.tmp 10) rfl w.heap.size _ [] rfl (show Own w1 w.heap.size _ [] from hown1) A l c w.heap.size rfl (hb.below ((Below.refl _ _).grown hgrow1 (Nat.le_refl _) (fun k h => by cases h))) hc (by simp; omega) hgrow1.size ?_; intro v2 w2 hown2 hbel2))
  go_ret
  exact ⟨v2, rfl, hown2, ((Below.refl _ _).grown hgrow1 (Nat.le_refl _) (fun k h => by cases h)).trans hbel2⟩

set_option maxHeartbeats 1000000 in
theorem putU_any (A : Option Addr) (l : List Nat) (c n : Nat) (w : World) (hb : Bytes w w.heap.size A l) (hc : A = none → c = 0) (hl : l.length ≤ 70368744177664) (hn : n < 18446744073709551616) :
    Calls Tryd.prog 19 #[.slice A l.length c, .int .u64 (n : Int)] w (Gives w (l ++ putU n)) := by
  have Hn := Lib.hid hn
  clear hn
  go_enter Tryd.func19, Tryd.ntmps19
  go_wp2_with (go_at_call 26; refine (fresh_any A l c w hb hc hl).mono ?_; rintro e w' ⟨v0, rfl, hown0, hbel0⟩)
  go_loopw [1, 5] (fun x v wr => ∃ (f m : Nat) (k : List Nat), m < 128 ^ (f + 1) ∧ f ≤ 9 ∧ x = .int .u64 (m : Int) ∧ Own wr w.heap.size v k ∧ k ++ putUf f m = l ++ putU n ∧ Below w.heap.size w wr) (fun x _ _ => (intOf x).toNat)
  case atStart => exact ⟨9, n, l, by have := Hn.out; omega, by omega, rfl, hown0, rfl, hbel0⟩
  case round =>
    obtain ⟨f, m, k, hm, hf, rfl, hown, hk, hbel⟩ := hrel
    have hsz := hbel.size
    have hkl : k.length ≤ l.length + 10 := by
      have h1 := congrArg List.length hk
      have h2 := putUf_len 9 n
      have h3 := putUf_len f m
      simp only [List.length_append, putU] at h1
      omega
    by_cases h7 : m ≤ 127
    · have h7i : ¬ (127 : Int) < (m : Int) := by omega
      have hw : IntKind.u8.wrap (m : Int) = (m : Int) := by rw [IntKind.wrap_u8']; omega
      have hfin : putUf f m = [m] := by
        cases f with
        | zero => simp only [putUf]; rw [Nat.mod_eq_of_lt (by omega)]
        | succ f => simp only [putUf]; rw [if_pos (by omega)]
      rw [hfin] at hk
      have HK := Lib.hid hk
      clear hk hfin hm hb hc hown0 hbel0
      go_wp2_with (at_builtin; refine app_bytes rfl (.tmp 18) (.tmp 21) rfl w.heap.size _ k rfl (hown.alloc _) _ [m] 1 _ rfl (bytes_one _ m (by omega) _) (fun h => by cases h) (by simp; omega) (by simp; omega) ?_; intro v1 w1 hown1 hbel1)
      go_ret
      rw [HK.out] at hown1
      exact ⟨v1, rfl, hown1, (hbel.alloc hsz _).trans hbel1⟩
    · have h7i : (127 : Int) < (m : Int) := by omega
      cases f with
      | zero => simp at hm; omega
      | succ f =>
        obtain ⟨y, hy⟩ : ∃ y, y = m % 128 + 128 := ⟨_, rfl⟩
        have hbyte := byteU m
        rw [IntKind.wrap_u8'] at hbyte
        have hstep : putUf (f + 1) m = y :: putUf f (m / 128) := by simp only [putUf]; rw [if_neg (by omega), hy]
        rw [← hy] at hbyte
        have hy256 : y < 256 := by omega
        rw [hstep] at hk
        have HK := Lib.hid hk
        have HM := Lib.hid hm
        clear hk hstep hm hb hc hown0 hbel0 hy
        go_wp2_with (at_builtin; refine app_bytes rfl (.tmp 10) (.tmp 14) rfl w.heap.size _ k rfl (hown.alloc _) _ [y] 1 _ rfl (bytes_one _ y (by omega) _) (fun h => by cases h) (by simp; omega) (by simp; omega) ?_; intro v1 w1 hown1 hbel1)
        go_roundw
        case rel => exact ⟨f, m / 128, k ++ [y], by have := HM.out; rw [Nat.pow_succ] at this; omega, by omega, by go_num, hown1, by rw [← HK.out]; simp, (hbel.alloc hsz _).trans hbel1⟩
        case measure => simp [intOf]; omega

theorem putU_nil (n k : Nat) (w : World) (hn : n < 18446744073709551616) (hk : (putU n).length = k) : Calls Tryd.prog 19 #[.slice none 0 0, .int .u64 (n : Int)] w (GivesB w (putU n) k) :=
  gives_b (putU_any none [] 0 n w (bytes_nil w) (fun _ => rfl) (by simp) hn) (putUf_byte 9 n) hk
end Go.Proofs.YtelcoeeijkainaaDoor.Leb
