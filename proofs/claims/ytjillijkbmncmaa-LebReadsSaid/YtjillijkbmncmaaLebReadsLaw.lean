/-
  trammellaw01.LebReads answers true for every slice of bytes and every number of bits. Condition: the bytes lie in memory as a slice's cells.
-/
import Derived.Test.YtjillijkbmncmaaLebAwake
import Derived.Test.YtjillijkbmncmaaLebRefS
namespace Go.Proofs.Ytjillijkbmncmaa.Leb
open Go.RowKit

section
variable (A : Option Addr) (len cap v s e p f : Nat) (n x : Int) (w : World)
set_option maxHeartbeats 1000000 in
theorem reads_small (hl : len ≤ cap) (hk : len ≤ 1000)
    (H1 : ∀ W, Below w.heap.size w W → Calls Try.prog 10 #[.slice A len cap, .int .i64 n] W fun r w' => r = .returned (.tuple #[.int .u64 (v : Int), .int .i64 (s : Int), .int .i64 (e : Int)]) ∧ ∃ m, w' = W.drewN m)
    (H2 : ∀ W, Below w.heap.size w W → Calls Try.prog 11 #[.slice A len cap, .int .i64 n] W (TellsU W (v, s, e)))
    (H3 : ∀ W, Below w.heap.size w W → Calls Try.prog 12 #[.slice A len cap, .int .i64 n] W fun r w' => r = .returned (.tuple #[.int .i64 x, .int .i64 (p : Int), .int .i64 (f : Int)]) ∧ ∃ m, w' = W.drewN m)
    (H4 : ∀ W, Below w.heap.size w W → Calls Try.prog 13 #[.slice A len cap, .int .i64 n] W (TellsS W (x, p, f))) :
    Calls Try.prog 3 #[.slice A len cap, .int .i64 n] w fun e w' => e = .returned (.bool true) ∧ Below w.heap.size w w' := by
  have H1 := Lib.hid H1
  have H2 := Lib.hid H2
  have H3 := Lib.hid H3
  have H4 := Lib.hid H4
  go_enter Try.func3, Try.ntmps3
  go_wp2_with (go_at_call 9; refine (awake_any _).mono ?_; rintro e w' ⟨rfl, hb1⟩)
  refine (H1.out _ hb1).mono ?_
  rintro r w2 ⟨rfl, d1, rfl⟩
  go_wp2_with fail
  have hb2 := below_drewN hb1 d1
  refine (H2.out _ hb2).mono ?_
  rintro r w3 ⟨rfl, hb3⟩
  have hb4 := hb2.trans (hb3.mono hb2.size)
  clear hb2 hb3
  go_wp2_with fail
  refine (H3.out _ hb4).mono ?_
  rintro r w5 ⟨rfl, d2, rfl⟩
  go_wp2_with fail
  have hb5 := below_drewN hb4 d2
  refine (H4.out _ hb5).mono ?_
  rintro r w6 ⟨rfl, hb6⟩
  have hb7 := hb5.trans (hb6.mono hb5.size)
  go_wp2
  go_ret
  exact ⟨rfl, hb7⟩
set_option maxHeartbeats 1000000 in
theorem reads_great (hl : len ≤ cap) (hk : 1000 < len)
    (H1 : ∀ W, Below w.heap.size w W → Calls Try.prog 10 #[.slice A 1000 cap, .int .i64 n] W fun r w' => r = .returned (.tuple #[.int .u64 (v : Int), .int .i64 (s : Int), .int .i64 (e : Int)]) ∧ ∃ m, w' = W.drewN m)
    (H2 : ∀ W, Below w.heap.size w W → Calls Try.prog 11 #[.slice A 1000 cap, .int .i64 n] W (TellsU W (v, s, e)))
    (H3 : ∀ W, Below w.heap.size w W → Calls Try.prog 12 #[.slice A 1000 cap, .int .i64 n] W fun r w' => r = .returned (.tuple #[.int .i64 x, .int .i64 (p : Int), .int .i64 (f : Int)]) ∧ ∃ m, w' = W.drewN m)
    (H4 : ∀ W, Below w.heap.size w W → Calls Try.prog 13 #[.slice A 1000 cap, .int .i64 n] W (TellsS W (x, p, f))) :
    Calls Try.prog 3 #[.slice A len cap, .int .i64 n] w fun e w' => e = .returned (.bool true) ∧ Below w.heap.size w w' := by
  have H1 := Lib.hid H1
  have H2 := Lib.hid H2
  have H3 := Lib.hid H3
  have H4 := Lib.hid H4
  go_enter Try.func3, Try.ntmps3
  go_wp2_with (go_at_call 9; refine (awake_any _).mono ?_; rintro e w' ⟨rfl, hb1⟩)
  refine (H1.out _ hb1).mono ?_
  rintro r w2 ⟨rfl, d1, rfl⟩
  go_wp2_with fail
  have hb2 := below_drewN hb1 d1
  refine (H2.out _ hb2).mono ?_
  rintro r w3 ⟨rfl, hb3⟩
  have hb4 := hb2.trans (hb3.mono hb2.size)
  clear hb2 hb3
  go_wp2_with fail
  refine (H3.out _ hb4).mono ?_
  rintro r w5 ⟨rfl, d2, rfl⟩
  go_wp2_with fail
  have hb5 := below_drewN hb4 d2
  refine (H4.out _ hb5).mono ?_
  rintro r w6 ⟨rfl, hb6⟩
  have hb7 := hb5.trans (hb6.mono hb5.size)
  go_wp2
  go_ret
  exact ⟨rfl, hb7⟩
end
theorem reads_law (A : Option Addr) (l : List Nat) (cap : Nat) (n : Int) (w : World) (hb : Bytes w w.heap.size A l) (hl : l.length ≤ cap) :
    Calls Try.prog 3 #[.slice A l.length cap, .int .i64 n] w fun e w' => e = .returned (.bool true) ∧ Below w.heap.size w w' := by
  by_cases hin : 1 ≤ n ∧ n ≤ 64
  · obtain ⟨n, rfl⟩ := Int.eq_ofNat_of_zero_le (show 0 ≤ n by omega)
    have h0 : 1 ≤ n := by omega
    have h64 : n ≤ 64 := by omega
    by_cases hk : l.length ≤ 1000
    · exact reads_small A l.length cap _ _ _ _ _ n _ w hl hk (fun W hW => U_any A l cap _ n W (hb.below hW) h0 h64) (fun W hW => rU_any A l cap n W ((hb.below hW).more hW.size) h0 h64)
        (fun W hW => S_any A l cap _ n W (hb.below hW) h0 h64) (fun W hW => rS_any A l cap n W ((hb.below hW).more hW.size) h0 h64)
    · have e : (l.take 1000).length = 1000 := by simp; omega
      have hB := hb.take 1000
      generalize l.take 1000 = l' at *
      refine reads_great A l.length cap (uRes l' n).1 (uRes l' n).2.1 (uRes l' n).2.2 (sRes l' n).2.1 (sRes l' n).2.2 n (sRes l' n).1 w hl (by omega) ?_ ?_ ?_ ?_
      · intro W hW; have := U_any A l' cap _ n W (hB.below hW) h0 h64; rw [e] at this; exact this
      · intro W hW; have := rU_any A l' cap n W ((hB.below hW).more hW.size) h0 h64; rw [e] at this; exact this
      · intro W hW; have := S_any A l' cap _ n W (hB.below hW) h0 h64; rw [e] at this; exact this
      · intro W hW; have := rS_any A l' cap n W ((hB.below hW).more hW.size) h0 h64; rw [e] at this; exact this
  · have h : n < 1 ∨ 64 < n := by omega
    by_cases hk : l.length ≤ 1000
    · exact reads_small A l.length cap 0 0 5 0 5 n 0 w hl hk (fun W _ => U_arg A _ cap n W h) (fun W _ => rU_arg A _ cap n W h) (fun W _ => S_arg A _ cap n W h) (fun W _ => rS_arg A _ cap n W h)
    · exact reads_great A l.length cap 0 0 5 0 5 n 0 w hl (by omega) (fun W _ => U_arg A _ cap n W h) (fun W _ => rU_arg A _ cap n W h) (fun W _ => S_arg A _ cap n W h) (fun W _ => rS_arg A _ cap n W h)
end Go.Proofs.Ytjillijkbmncmaa.Leb
