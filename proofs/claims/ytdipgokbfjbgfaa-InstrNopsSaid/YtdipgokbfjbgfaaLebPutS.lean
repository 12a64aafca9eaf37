/-
  leb.PutS: what it comes to: new bytes, the given ones and, behind them, the number's. Condition: the given bytes lie in memory as a slice's cells, and are fewer than 2^46.
-/
import Derived.Test.YtdipgokbfjbgfaaLebPut
namespace Go.Proofs.Ytdipgokbfjbgfaa.Leb
open Go.RowKit

theorem stepS (f : Nat) (n : Int) (h : -(64 * 128 ^ (f + 1)) ≤ n ∧ n < 64 * 128 ^ (f + 1)) : -(64 * 128 ^ f) ≤ n / 128 ∧ n / 128 < 64 * 128 ^ f := by
  rw [Int.pow_succ] at h
  have hp : (0 : Int) < 128 ^ f := Int.pow_pos (by omega)
  generalize (128 : Int) ^ f = P at *
  omega
set_option maxHeartbeats 1000000 in
theorem putS_any (A : Option Addr) (l : List Nat) (c : Nat) (n : Int) (w : World) (hb : Bytes w w.heap.size A l) (hc : A = none → c = 0) (hl : l.length ≤ 70368744177664) (hn : -9223372036854775808 ≤ n ∧ n ≤ 9223372036854775807) :
    Calls Try.prog 45 #[.slice A l.length c, .int .i64 n] w (Gives w (l ++ putS n)) := by
  have Hn := Lib.hid hn
  clear hn
  go_enter Try.func45, Try.ntmps45
  go_wp2_with (go_at_call 64; refine (fresh_any A l c w hb hc hl).mono ?_; rintro e w' ⟨v0, rfl, hown0, hbel0⟩)
  go_loopw [1, 5] (fun x v wr => ∃ (f : Nat) (m : Int) (k : List Nat), (-(64 * 128 ^ f) ≤ m ∧ m < 64 * 128 ^ f) ∧ f ≤ 9 ∧ x = .int .i64 m ∧ Own wr w.heap.size v k ∧ k ++ putSf f m = l ++ putS n ∧ Below w.heap.size w wr) (fun x _ _ => (intOf x).natAbs)
  case atStart => exact ⟨9, n, l, by have := Hn.out; omega, by omega, rfl, hown0, rfl, hbel0⟩
  case round =>
    obtain ⟨f, m, k, hm, hf, rfl, hown, hk, hbel⟩ := hrel
    have hsz := hbel.size
    have hkl : k.length ≤ l.length + 10 := by
      have h1 := congrArg List.length hk
      have h2 := putSf_len 9 n
      have h3 := putSf_len f m
      simp only [List.length_append, putS] at h1
      omega
    by_cases h7 : -64 ≤ m ∧ m < 64
    · have h7i : ¬ m < -64 := by omega
      have h7j : ¬ 64 ≤ m := by omega
      obtain ⟨y, hy⟩ : ∃ y, y = (m % 128).toNat := ⟨_, rfl⟩
      have hbyte := lastS m
      rw [IntKind.wrap_u8'] at hbyte
      have hfin : putSf f m = [y] := by
        cases f with
        | zero => simp only [putSf]; rw [hy]
        | succ f => simp only [putSf]; rw [if_pos h7, hy]
      rw [← hy] at hbyte
      have hy256 : y < 256 := by omega
      rw [hfin] at hk
      have HK := Lib.hid hk
      clear hk hfin hm hb hc hown0 hbel0 hy h7
      go_wp2_with (at_builtin; refine app_bytes rfl (.tmp 22) (.tmp 26) rfl w.heap.size _ k rfl (hown.alloc _) _ [y] 1 _ rfl (bytes_one _ y (by omega) _) (fun h => by cases h) (by simp; omega) (by simp; omega) ?_; intro v1 w1 hown1 hbel1)
      go_ret
      rw [HK.out] at hown1
      exact ⟨v1, rfl, hown1, (hbel.alloc hsz _).trans hbel1⟩
    · cases f with
      | zero => simp at hm; omega
      | succ f =>
        obtain ⟨y, hy⟩ : ∃ y, y = (m % 128).toNat + 128 := ⟨_, rfl⟩
        have hbyte := byteS m
        rw [IntKind.wrap_u8'] at hbyte
        have hstep : putSf (f + 1) m = y :: putSf f (m / 128) := by simp only [putSf]; rw [if_neg h7, hy]
        rw [← hy] at hbyte
        have hy256 : y < 256 := by omega
        rw [hstep] at hk
        have HK := Lib.hid hk
        have HM := Lib.hid hm
        clear hk hstep hm hb hc hown0 hbel0 hy
        by_cases h64 : m < -64
        · clear h7
          go_wp2_with (at_builtin; refine app_bytes rfl (.tmp 14) (.tmp 18) rfl w.heap.size _ k rfl (hown.alloc _) _ [y] 1 _ rfl (bytes_one _ y (by omega) _) (fun h => by cases h) (by simp; omega) (by simp; omega) ?_; intro v1 w1 hown1 hbel1)
          go_roundw
          case rel => exact ⟨f, m / 128, k ++ [y], stepS f m HM.out, by omega, by go_num, hown1, by rw [← HK.out]; simp, (hbel.alloc hsz _).trans hbel1⟩
          case measure => simp [intOf]; omega
        · have h65 : 64 ≤ m := by omega
          clear h7
          go_wp2_with (at_builtin; refine app_bytes rfl (.tmp 14) (.tmp 18) rfl w.heap.size _ k rfl (hown.alloc _) _ [y] 1 _ rfl (bytes_one _ y (by omega) _) (fun h => by cases h) (by simp; omega) (by simp; omega) ?_; intro v1 w1 hown1 hbel1)
          go_roundw
          case rel => exact ⟨f, m / 128, k ++ [y], stepS f m HM.out, by omega, by go_num, hown1, by rw [← HK.out]; simp, (hbel.alloc hsz _).trans hbel1⟩
          case measure => simp [intOf]; omega
theorem putS_nil (n : Int) (k : Nat) (w : World) (hn : -9223372036854775808 ≤ n ∧ n ≤ 9223372036854775807) (hk : (putS n).length = k) : Calls Try.prog 45 #[.slice none 0 0, .int .i64 n] w (GivesB w (putS n) k) :=
  gives_b (putS_any none [] 0 n w (bytes_nil w) (fun _ => rfl) (by simp) hn) (putSf_byte 9 n) hk
end Go.Proofs.Ytdipgokbfjbgfaa.Leb
