/-
  trammellaw01.LebWider, walked: it answers true, whatever bytes and numbers of bits. Condition: the bytes lie in memory as a slice's cells.
-/
import Derived.Test.YtjillijkbmncmaaLebAwake
import Derived.Test.YtjillijkbmncmaaLebBytes
namespace Go.Proofs.Ytjillijkbmncmaa.Leb
open Go.RowKit

theorem most_mono {n m : Nat} (h : n ≤ m) : most n ≤ most m := by unfold most; omega
theorem uRes_wider (l : List Nat) (n m : Nat) (h : n ≤ m) (hu : (uRes l n).2.2 = 0) : uRes l m = uRes l n := by
  have hmm := most_mono h
  unfold uRes at hu ⊢
  obtain ⟨v, s, e, hg, _, hs⟩ := gath_cases l (most n)
  rw [hg] at hu ⊢
  by_cases he : e = 0
  · subst he
    obtain ⟨hs1, hsm, hsl⟩ := hs rfl
    have hg' : gath l (most m) = (v, s, 0) := by
      unfold gath at hg ⊢
      by_cases c1 : most n ≤ lead l
      · rw [if_pos c1] at hg
        simp at hg
      · rw [if_neg c1] at hg
        rw [if_neg (by omega)]
        exact hg
    rw [hg', if_pos rfl]
    rw [if_pos rfl] at hu ⊢
    by_cases c2 : s = most n ∧ l.getD (most n - 1) 0 / 2 ^ inl n ≠ 0
    · rw [if_pos c2] at hu
      simp at hu
    · rw [if_neg c2, if_neg]
      rintro ⟨c3, c4⟩
      simp only at c3
      have e1 : most n = most m := by omega
      apply c4
      have c5 : l.getD (most n - 1) 0 / 2 ^ inl n = 0 := by
        rcases Nat.eq_zero_or_pos (l.getD (most n - 1) 0 / 2 ^ inl n) with c | c
        · exact c
        · exact absurd ⟨(show s = most n by omega), by omega⟩ c2
      have e2 : inl n ≤ inl m := by unfold inl; rw [e1]; omega
      rw [← e1]
      rw [Nat.div_eq_zero_iff_lt (Nat.pow_pos (by omega))] at c5 ⊢
      exact Nat.lt_of_lt_of_le c5 (Nat.pow_le_pow_right (by omega) e2)
  · rw [if_neg he] at hu
    exact absurd hu he
theorem sRes_wider (l : List Nat) (n m : Nat) (h : n ≤ m) (hu : (sRes l n).2.2 = 0) :
    ((sRes l n).2.1 < most n ∧ sRes l m = sRes l n) ∨ ((sRes l n).2.1 = most n ∧ ((sRes l m).2.2 = 0 → (sRes l n).1 = (sRes l m).1)) := by
  have hmm := most_mono h
  unfold sRes at hu ⊢
  obtain ⟨v, s, e, hg, _, hs⟩ := gath_cases l (most n)
  rw [hg] at hu ⊢
  by_cases he : e = 0
  · subst he
    obtain ⟨hs1, hsm, hsl⟩ := hs rfl
    have hg' : gath l (most m) = (v, s, 0) := by
      unfold gath at hg ⊢
      by_cases c1 : most n ≤ lead l
      · rw [if_pos c1] at hg
        simp at hg
      · rw [if_neg c1] at hg
        rw [if_neg (by omega)]
        exact hg
    rw [hg', if_pos rfl, if_pos rfl]
    rw [if_pos rfl] at hu
    by_cases c2 : s = most n ∧ csB (l.getD (most n - 1) 0 : Nat) (inl n : Nat) = false
    · rw [if_pos c2] at hu
      simp at hu
    · rw [if_neg c2]
      by_cases c3 : s = most n
      · refine .inr ⟨c3, ?_⟩
        by_cases c4 : s = most m ∧ csB (l.getD (most m - 1) 0 : Nat) (inl m : Nat) = false
        · rw [if_pos c4]; simp
        · rw [if_neg c4]; simp
      · refine .inl ⟨by simp only; omega, ?_⟩
        rw [if_neg]
        rintro ⟨c4, _⟩
        simp only at c4
        omega
  · rw [if_neg he] at hu
    exact absurd hu he

/-- How leb.U and leb.S answer, in any world that kept what was there. -/
def ToldU (w : World) (A : Option Addr) (len cap n v s e : Nat) : Prop :=
  ∀ W, Below w.heap.size w W → Calls Try.prog 10 #[.slice A len cap, .int .i64 (n : Int)] W fun r w' => r = .returned (.tuple #[.int .u64 (v : Int), .int .i64 (s : Int), .int .i64 (e : Int)]) ∧ ∃ m, w' = W.drewN m
def ToldS (w : World) (A : Option Addr) (len cap n : Nat) (v : Int) (s e : Nat) : Prop :=
  ∀ W, Below w.heap.size w W → Calls Try.prog 12 #[.slice A len cap, .int .i64 (n : Int)] W fun r w' => r = .returned (.tuple #[.int .i64 v, .int .i64 (s : Int), .int .i64 (e : Int)]) ∧ ∃ m, w' = W.drewN m
theorem told_U {w : World} {A : Option Addr} {l : List Nat} (hb : Bytes w w.heap.size A l) (cap n : Nat) (h0 : 1 ≤ n) (h64 : n ≤ 64) : ToldU w A l.length cap n (uRes l n).1 (uRes l n).2.1 (uRes l n).2.2 :=
  fun W hW => U_any A l cap w.heap.size n W (hb.below hW) h0 h64
theorem told_S {w : World} {A : Option Addr} {l : List Nat} (hb : Bytes w w.heap.size A l) (cap n : Nat) (h0 : 1 ≤ n) (h64 : n ≤ 64) : ToldS w A l.length cap n (sRes l n).1 (sRes l n).2.1 (sRes l n).2.2 :=
  fun W hW => S_any A l cap w.heap.size n W (hb.below hW) h0 h64

theorem wider_out (A : Option Addr) (len cap : Nat) (n m : Int) (w : World) (hl : len ≤ cap) (hm : cap ≤ maxLen) (h : n < 1 ∨ (1 ≤ n ∧ m < n) ∨ (1 ≤ n ∧ n ≤ m ∧ 64 < m)) :
    Calls Try.prog 7 #[.slice A len cap, .int .i64 n, .int .i64 m] w fun e w' => e = .returned (.bool true) ∧ Below w.heap.size w w' := by
  unfold maxLen at hm
  by_cases hk : len ≤ 1000
  · rcases h with h | ⟨h, h'⟩ | ⟨h, h', h''⟩ <;>
    · go_enter Try.func7, Try.ntmps7
      go_wp2_with (go_at_call 9; refine (awake_any _).mono ?_; rintro e w' ⟨rfl, hb1⟩)
      go_ret
      exact ⟨rfl, hb1⟩
  · rcases h with h | ⟨h, h'⟩ | ⟨h, h', h''⟩ <;>
    · go_enter Try.func7, Try.ntmps7
      go_wp2_with (go_at_call 9; refine (awake_any _).mono ?_; rintro e w' ⟨rfl, hb1⟩)
      go_ret
      exact ⟨rfl, hb1⟩
section
variable (A : Option Addr) (len cap n m a1 k1 e1 a2 k2 e2 p1 f1 p2 f2 : Nat) (x1 x2 : Int) (w : World)
set_option maxHeartbeats 2000000 in
theorem wider_small (h0 : 1 ≤ n) (hnm : n ≤ m) (h64 : m ≤ 64) (hl : len ≤ cap) (hk : len ≤ 1000)
    (H1 : ToldU w A len cap n a1 k1 e1) (H2 : ToldU w A len cap m a2 k2 e2) (H3 : ToldS w A len cap n x1 p1 f1) (H4 : ToldS w A len cap m x2 p2 f2)
    (hU : e1 ≠ 0 ∨ (e1 = 0 ∧ e2 = 0 ∧ a2 = a1 ∧ k2 = k1))
    (hS : f1 ≠ 0 ∨ (f1 = 0 ∧ f2 = 0 ∧ x2 = x1 ∧ p2 = p1 ∧ p1 < most n) ∨ (f1 = 0 ∧ p1 = most n ∧ f2 ≠ 0) ∨ (f1 = 0 ∧ p1 = most n ∧ f2 = 0 ∧ x2 = x1)) :
    Calls Try.prog 7 #[.slice A len cap, .int .i64 (n : Int), .int .i64 (m : Int)] w fun e w' => e = .returned (.bool true) ∧ Below w.heap.size w w' := by
  have b0 : ¬ (n : Int) < 1 := by omega
  have b1 : ¬ (m : Int) < (n : Int) := by omega
  have b2 : ¬ 64 < (m : Int) := by omega
  rcases hU with hU | ⟨rfl, rfl, rfl, rfl⟩
  · have t1 : ((e1 : Int) == 0) = false := by simp; omega
    clear hU
    rcases hS with hS | ⟨rfl, rfl, rfl, rfl, hp⟩ | ⟨rfl, hp, hf⟩ | ⟨rfl, hp, rfl, rfl⟩
    · have t2 : ((f1 : Int) != 0) = true := by simp; omega
      clear hS
      go_enter Try.func7, Try.ntmps7
      go_wp2_with (go_at_call 9; refine (awake_any _).mono ?_; rintro e w' ⟨rfl, hb1⟩)
      refine (H1 _ hb1).mono ?_
      rintro e w1 ⟨rfl, d1, rfl⟩
      go_wp2_with fail
      refine (H2 _ (below_drewN hb1 _)).mono ?_
      rintro e w1 ⟨rfl, d2, rfl⟩
      go_wp2_with fail
      refine (H3 _ (below_drewN hb1 _)).mono ?_
      rintro e w1 ⟨rfl, d3, rfl⟩
      go_wp2_with fail
      refine (H4 _ (below_drewN hb1 _)).mono ?_
      rintro e w1 ⟨rfl, d4, rfl⟩
      go_wp2
      go_ret
      exact ⟨rfl, below_drewN hb1 _⟩
    · have t3 : (p2 : Int) < ((n : Int) + 6) / 7 := by unfold most at hp; omega
      clear hp
      go_enter Try.func7, Try.ntmps7
      go_wp2_with (go_at_call 9; refine (awake_any _).mono ?_; rintro e w' ⟨rfl, hb1⟩)
      refine (H1 _ hb1).mono ?_
      rintro e w1 ⟨rfl, d1, rfl⟩
      go_wp2_with fail
      refine (H2 _ (below_drewN hb1 _)).mono ?_
      rintro e w1 ⟨rfl, d2, rfl⟩
      go_wp2_with fail
      refine (H3 _ (below_drewN hb1 _)).mono ?_
      rintro e w1 ⟨rfl, d3, rfl⟩
      go_wp2_with fail
      refine (H4 _ (below_drewN hb1 _)).mono ?_
      rintro e w1 ⟨rfl, d4, rfl⟩
      go_wp2
      go_ret
      exact ⟨rfl, below_drewN hb1 _⟩
    · have t3 : ¬ (p1 : Int) < ((n : Int) + 6) / 7 := by unfold most at hp; omega
      have t4 : ((p1 : Int) == ((n : Int) + 6) / 7) = true := by rw [beq_iff_eq]; unfold most at hp; omega
      have t5 : ((f2 : Int) != 0) = true := by simp; omega
      clear hp hf
      go_enter Try.func7, Try.ntmps7
      go_wp2_with (go_at_call 9; refine (awake_any _).mono ?_; rintro e w' ⟨rfl, hb1⟩)
      refine (H1 _ hb1).mono ?_
      rintro e w1 ⟨rfl, d1, rfl⟩
      go_wp2_with fail
      refine (H2 _ (below_drewN hb1 _)).mono ?_
      rintro e w1 ⟨rfl, d2, rfl⟩
      go_wp2_with fail
      refine (H3 _ (below_drewN hb1 _)).mono ?_
      rintro e w1 ⟨rfl, d3, rfl⟩
      go_wp2_with fail
      refine (H4 _ (below_drewN hb1 _)).mono ?_
      rintro e w1 ⟨rfl, d4, rfl⟩
      go_wp2
      go_ret
      exact ⟨rfl, below_drewN hb1 _⟩
    · have t3 : ¬ (p1 : Int) < ((n : Int) + 6) / 7 := by unfold most at hp; omega
      have t4 : ((p1 : Int) == ((n : Int) + 6) / 7) = true := by rw [beq_iff_eq]; unfold most at hp; omega
      clear hp
      go_enter Try.func7, Try.ntmps7
      go_wp2_with (go_at_call 9; refine (awake_any _).mono ?_; rintro e w' ⟨rfl, hb1⟩)
      refine (H1 _ hb1).mono ?_
      rintro e w1 ⟨rfl, d1, rfl⟩
      go_wp2_with fail
      refine (H2 _ (below_drewN hb1 _)).mono ?_
      rintro e w1 ⟨rfl, d2, rfl⟩
      go_wp2_with fail
      refine (H3 _ (below_drewN hb1 _)).mono ?_
      rintro e w1 ⟨rfl, d3, rfl⟩
      go_wp2_with fail
      refine (H4 _ (below_drewN hb1 _)).mono ?_
      rintro e w1 ⟨rfl, d4, rfl⟩
      go_wp2
      go_ret
      exact ⟨rfl, below_drewN hb1 _⟩
  · rcases hS with hS | ⟨rfl, rfl, rfl, rfl, hp⟩ | ⟨rfl, hp, hf⟩ | ⟨rfl, hp, rfl, rfl⟩
    · have t2 : ((f1 : Int) != 0) = true := by simp; omega
      clear hS
      go_enter Try.func7, Try.ntmps7
      go_wp2_with (go_at_call 9; refine (awake_any _).mono ?_; rintro e w' ⟨rfl, hb1⟩)
      refine (H1 _ hb1).mono ?_
      rintro e w1 ⟨rfl, d1, rfl⟩
      go_wp2_with fail
      refine (H2 _ (below_drewN hb1 _)).mono ?_
      rintro e w1 ⟨rfl, d2, rfl⟩
      go_wp2_with fail
      refine (H3 _ (below_drewN hb1 _)).mono ?_
      rintro e w1 ⟨rfl, d3, rfl⟩
      go_wp2_with fail
      refine (H4 _ (below_drewN hb1 _)).mono ?_
      rintro e w1 ⟨rfl, d4, rfl⟩
      go_wp2
      go_ret
      exact ⟨rfl, below_drewN hb1 _⟩
    · have t3 : (p2 : Int) < ((n : Int) + 6) / 7 := by unfold most at hp; omega
      clear hp
      go_enter Try.func7, Try.ntmps7
      go_wp2_with (go_at_call 9; refine (awake_any _).mono ?_; rintro e w' ⟨rfl, hb1⟩)
      refine (H1 _ hb1).mono ?_
      rintro e w1 ⟨rfl, d1, rfl⟩
      go_wp2_with fail
      refine (H2 _ (below_drewN hb1 _)).mono ?_
      rintro e w1 ⟨rfl, d2, rfl⟩
      go_wp2_with fail
      refine (H3 _ (below_drewN hb1 _)).mono ?_
      rintro e w1 ⟨rfl, d3, rfl⟩
      go_wp2_with fail
      refine (H4 _ (below_drewN hb1 _)).mono ?_
      rintro e w1 ⟨rfl, d4, rfl⟩
      go_wp2
      go_ret
      exact ⟨rfl, below_drewN hb1 _⟩
    · have t3 : ¬ (p1 : Int) < ((n : Int) + 6) / 7 := by unfold most at hp; omega
      have t4 : ((p1 : Int) == ((n : Int) + 6) / 7) = true := by rw [beq_iff_eq]; unfold most at hp; omega
      have t5 : ((f2 : Int) != 0) = true := by simp; omega
      clear hp hf
      go_enter Try.func7, Try.ntmps7
      go_wp2_with (go_at_call 9; refine (awake_any _).mono ?_; rintro e w' ⟨rfl, hb1⟩)
      refine (H1 _ hb1).mono ?_
      rintro e w1 ⟨rfl, d1, rfl⟩
      go_wp2_with fail
      refine (H2 _ (below_drewN hb1 _)).mono ?_
      rintro e w1 ⟨rfl, d2, rfl⟩
      go_wp2_with fail
      refine (H3 _ (below_drewN hb1 _)).mono ?_
      rintro e w1 ⟨rfl, d3, rfl⟩
      go_wp2_with fail
      refine (H4 _ (below_drewN hb1 _)).mono ?_
      rintro e w1 ⟨rfl, d4, rfl⟩
      go_wp2
      go_ret
      exact ⟨rfl, below_drewN hb1 _⟩
    · have t3 : ¬ (p1 : Int) < ((n : Int) + 6) / 7 := by unfold most at hp; omega
      have t4 : ((p1 : Int) == ((n : Int) + 6) / 7) = true := by rw [beq_iff_eq]; unfold most at hp; omega
      clear hp
      go_enter Try.func7, Try.ntmps7
      go_wp2_with (go_at_call 9; refine (awake_any _).mono ?_; rintro e w' ⟨rfl, hb1⟩)
      refine (H1 _ hb1).mono ?_
      rintro e w1 ⟨rfl, d1, rfl⟩
      go_wp2_with fail
      refine (H2 _ (below_drewN hb1 _)).mono ?_
      rintro e w1 ⟨rfl, d2, rfl⟩
      go_wp2_with fail
      refine (H3 _ (below_drewN hb1 _)).mono ?_
      rintro e w1 ⟨rfl, d3, rfl⟩
      go_wp2_with fail
      refine (H4 _ (below_drewN hb1 _)).mono ?_
      rintro e w1 ⟨rfl, d4, rfl⟩
      go_wp2
      go_ret
      exact ⟨rfl, below_drewN hb1 _⟩
set_option maxHeartbeats 2000000 in
theorem wider_great (h0 : 1 ≤ n) (hnm : n ≤ m) (h64 : m ≤ 64) (hl : len ≤ cap) (hk : 1000 < len)
    (H1 : ToldU w A 1000 cap n a1 k1 e1) (H2 : ToldU w A 1000 cap m a2 k2 e2) (H3 : ToldS w A 1000 cap n x1 p1 f1) (H4 : ToldS w A 1000 cap m x2 p2 f2)
    (hU : e1 ≠ 0 ∨ (e1 = 0 ∧ e2 = 0 ∧ a2 = a1 ∧ k2 = k1))
    (hS : f1 ≠ 0 ∨ (f1 = 0 ∧ f2 = 0 ∧ x2 = x1 ∧ p2 = p1 ∧ p1 < most n) ∨ (f1 = 0 ∧ p1 = most n ∧ f2 ≠ 0) ∨ (f1 = 0 ∧ p1 = most n ∧ f2 = 0 ∧ x2 = x1)) :
    Calls Try.prog 7 #[.slice A len cap, .int .i64 (n : Int), .int .i64 (m : Int)] w fun e w' => e = .returned (.bool true) ∧ Below w.heap.size w w' := by
  have b0 : ¬ (n : Int) < 1 := by omega
  have b1 : ¬ (m : Int) < (n : Int) := by omega
  have b2 : ¬ 64 < (m : Int) := by omega
  rcases hU with hU | ⟨rfl, rfl, rfl, rfl⟩
  · have t1 : ((e1 : Int) == 0) = false := by simp; omega
    clear hU
    rcases hS with hS | ⟨rfl, rfl, rfl, rfl, hp⟩ | ⟨rfl, hp, hf⟩ | ⟨rfl, hp, rfl, rfl⟩
    · have t2 : ((f1 : Int) != 0) = true := by simp; omega
      clear hS
      go_enter Try.func7, Try.ntmps7
      go_wp2_with (go_at_call 9; refine (awake_any _).mono ?_; rintro e w' ⟨rfl, hb1⟩)
      refine (H1 _ hb1).mono ?_
      rintro e w1 ⟨rfl, d1, rfl⟩
      go_wp2_with fail
      refine (H2 _ (below_drewN hb1 _)).mono ?_
      rintro e w1 ⟨rfl, d2, rfl⟩
      go_wp2_with fail
      refine (H3 _ (below_drewN hb1 _)).mono ?_
      rintro e w1 ⟨rfl, d3, rfl⟩
      go_wp2_with fail
      refine (H4 _ (below_drewN hb1 _)).mono ?_
      rintro e w1 ⟨rfl, d4, rfl⟩
      go_wp2
      go_ret
      exact ⟨rfl, below_drewN hb1 _⟩
    · have t3 : (p2 : Int) < ((n : Int) + 6) / 7 := by unfold most at hp; omega
      clear hp
      go_enter Try.func7, Try.ntmps7
      go_wp2_with (go_at_call 9; refine (awake_any _).mono ?_; rintro e w' ⟨rfl, hb1⟩)
      refine (H1 _ hb1).mono ?_
      rintro e w1 ⟨rfl, d1, rfl⟩
      go_wp2_with fail
      refine (H2 _ (below_drewN hb1 _)).mono ?_
      rintro e w1 ⟨rfl, d2, rfl⟩
      go_wp2_with fail
      refine (H3 _ (below_drewN hb1 _)).mono ?_
      rintro e w1 ⟨rfl, d3, rfl⟩
      go_wp2_with fail
      refine (H4 _ (below_drewN hb1 _)).mono ?_
      rintro e w1 ⟨rfl, d4, rfl⟩
      go_wp2
      go_ret
      exact ⟨rfl, below_drewN hb1 _⟩
    · have t3 : ¬ (p1 : Int) < ((n : Int) + 6) / 7 := by unfold most at hp; omega
      have t4 : ((p1 : Int) == ((n : Int) + 6) / 7) = true := by rw [beq_iff_eq]; unfold most at hp; omega
      have t5 : ((f2 : Int) != 0) = true := by simp; omega
      clear hp hf
      go_enter Try.func7, Try.ntmps7
      go_wp2_with (go_at_call 9; refine (awake_any _).mono ?_; rintro e w' ⟨rfl, hb1⟩)
      refine (H1 _ hb1).mono ?_
      rintro e w1 ⟨rfl, d1, rfl⟩
      go_wp2_with fail
      refine (H2 _ (below_drewN hb1 _)).mono ?_
      rintro e w1 ⟨rfl, d2, rfl⟩
      go_wp2_with fail
      refine (H3 _ (below_drewN hb1 _)).mono ?_
      rintro e w1 ⟨rfl, d3, rfl⟩
      go_wp2_with fail
      refine (H4 _ (below_drewN hb1 _)).mono ?_
      rintro e w1 ⟨rfl, d4, rfl⟩
      go_wp2
      go_ret
      exact ⟨rfl, below_drewN hb1 _⟩
    · have t3 : ¬ (p1 : Int) < ((n : Int) + 6) / 7 := by unfold most at hp; omega
      have t4 : ((p1 : Int) == ((n : Int) + 6) / 7) = true := by rw [beq_iff_eq]; unfold most at hp; omega
      clear hp
      go_enter Try.func7, Try.ntmps7
      go_wp2_with (go_at_call 9; refine (awake_any _).mono ?_; rintro e w' ⟨rfl, hb1⟩)
      refine (H1 _ hb1).mono ?_
      rintro e w1 ⟨rfl, d1, rfl⟩
      go_wp2_with fail
      refine (H2 _ (below_drewN hb1 _)).mono ?_
      rintro e w1 ⟨rfl, d2, rfl⟩
      go_wp2_with fail
      refine (H3 _ (below_drewN hb1 _)).mono ?_
      rintro e w1 ⟨rfl, d3, rfl⟩
      go_wp2_with fail
      refine (H4 _ (below_drewN hb1 _)).mono ?_
      rintro e w1 ⟨rfl, d4, rfl⟩
      go_wp2
      go_ret
      exact ⟨rfl, below_drewN hb1 _⟩
  · rcases hS with hS | ⟨rfl, rfl, rfl, rfl, hp⟩ | ⟨rfl, hp, hf⟩ | ⟨rfl, hp, rfl, rfl⟩
    · have t2 : ((f1 : Int) != 0) = true := by simp; omega
      clear hS
      go_enter Try.func7, Try.ntmps7
      go_wp2_with (go_at_call 9; refine (awake_any _).mono ?_; rintro e w' ⟨rfl, hb1⟩)
      refine (H1 _ hb1).mono ?_
      rintro e w1 ⟨rfl, d1, rfl⟩
      go_wp2_with fail
      refine (H2 _ (below_drewN hb1 _)).mono ?_
      rintro e w1 ⟨rfl, d2, rfl⟩
      go_wp2_with fail
      refine (H3 _ (below_drewN hb1 _)).mono ?_
      rintro e w1 ⟨rfl, d3, rfl⟩
      go_wp2_with fail
      refine (H4 _ (below_drewN hb1 _)).mono ?_
      rintro e w1 ⟨rfl, d4, rfl⟩
      go_wp2
      go_ret
      exact ⟨rfl, below_drewN hb1 _⟩
    · have t3 : (p2 : Int) < ((n : Int) + 6) / 7 := by unfold most at hp; omega
      clear hp
      go_enter Try.func7, Try.ntmps7
      go_wp2_with (go_at_call 9; refine (awake_any _).mono ?_; rintro e w' ⟨rfl, hb1⟩)
      refine (H1 _ hb1).mono ?_
      rintro e w1 ⟨rfl, d1, rfl⟩
      go_wp2_with fail
      refine (H2 _ (below_drewN hb1 _)).mono ?_
      rintro e w1 ⟨rfl, d2, rfl⟩
      go_wp2_with fail
      refine (H3 _ (below_drewN hb1 _)).mono ?_
      rintro e w1 ⟨rfl, d3, rfl⟩
      go_wp2_with fail
      refine (H4 _ (below_drewN hb1 _)).mono ?_
      rintro e w1 ⟨rfl, d4, rfl⟩
      go_wp2
      go_ret
      exact ⟨rfl, below_drewN hb1 _⟩
    · have t3 : ¬ (p1 : Int) < ((n : Int) + 6) / 7 := by unfold most at hp; omega
      have t4 : ((p1 : Int) == ((n : Int) + 6) / 7) = true := by rw [beq_iff_eq]; unfold most at hp; omega
      have t5 : ((f2 : Int) != 0) = true := by simp; omega
      clear hp hf
      go_enter Try.func7, Try.ntmps7
      go_wp2_with (go_at_call 9; refine (awake_any _).mono ?_; rintro e w' ⟨rfl, hb1⟩)
      refine (H1 _ hb1).mono ?_
      rintro e w1 ⟨rfl, d1, rfl⟩
      go_wp2_with fail
      refine (H2 _ (below_drewN hb1 _)).mono ?_
      rintro e w1 ⟨rfl, d2, rfl⟩
      go_wp2_with fail
      refine (H3 _ (below_drewN hb1 _)).mono ?_
      rintro e w1 ⟨rfl, d3, rfl⟩
      go_wp2_with fail
      refine (H4 _ (below_drewN hb1 _)).mono ?_
      rintro e w1 ⟨rfl, d4, rfl⟩
      go_wp2
      go_ret
      exact ⟨rfl, below_drewN hb1 _⟩
    · have t3 : ¬ (p1 : Int) < ((n : Int) + 6) / 7 := by unfold most at hp; omega
      have t4 : ((p1 : Int) == ((n : Int) + 6) / 7) = true := by rw [beq_iff_eq]; unfold most at hp; omega
      clear hp
      go_enter Try.func7, Try.ntmps7
      go_wp2_with (go_at_call 9; refine (awake_any _).mono ?_; rintro e w' ⟨rfl, hb1⟩)
      refine (H1 _ hb1).mono ?_
      rintro e w1 ⟨rfl, d1, rfl⟩
      go_wp2_with fail
      refine (H2 _ (below_drewN hb1 _)).mono ?_
      rintro e w1 ⟨rfl, d2, rfl⟩
      go_wp2_with fail
      refine (H3 _ (below_drewN hb1 _)).mono ?_
      rintro e w1 ⟨rfl, d3, rfl⟩
      go_wp2_with fail
      refine (H4 _ (below_drewN hb1 _)).mono ?_
      rintro e w1 ⟨rfl, d4, rfl⟩
      go_wp2
      go_ret
      exact ⟨rfl, below_drewN hb1 _⟩
end
end Go.Proofs.Ytjillijkbmncmaa.Leb
