/-
  trammellaw01.LebWider answers true for every slice of bytes and every two numbers of bits. Condition: the bytes lie in memory as a slice's cells.
-/
import Derived.Test.YtjillijkbmncmaaLebWiderWalk
namespace Go.Proofs.Ytjillijkbmncmaa.Leb
open Go.RowKit

theorem wider_law (A : Option Addr) (l : List Nat) (cap : Nat) (n m : Int) (w : World) (hb : Bytes w w.heap.size A l) (hl : l.length ≤ cap) (hm : cap ≤ maxLen) :
    Calls Try.prog 7 #[.slice A l.length cap, .int .i64 n, .int .i64 m] w fun e w' => e = .returned (.bool true) ∧ Below w.heap.size w w' := by
  by_cases hin : 1 ≤ n ∧ n ≤ m ∧ m ≤ 64
  · obtain ⟨h1, h2, h3⟩ := hin
    obtain ⟨n, rfl⟩ := Int.eq_ofNat_of_zero_le (show 0 ≤ n by omega)
    obtain ⟨m, rfl⟩ := Int.eq_ofNat_of_zero_le (show 0 ≤ m by omega)
    have hU : ∀ k : List Nat, (uRes k n).2.2 ≠ 0 ∨ ((uRes k n).2.2 = 0 ∧ (uRes k m).2.2 = 0 ∧ (uRes k m).1 = (uRes k n).1 ∧ (uRes k m).2.1 = (uRes k n).2.1) := by
      intro k
      by_cases h : (uRes k n).2.2 = 0
      · have := uRes_wider k n m (by omega) h
        rw [this]
        exact .inr ⟨h, h, rfl, rfl⟩
      · exact .inl h
    have hS : ∀ k : List Nat, (sRes k n).2.2 ≠ 0 ∨ ((sRes k n).2.2 = 0 ∧ (sRes k m).2.2 = 0 ∧ (sRes k m).1 = (sRes k n).1 ∧ (sRes k m).2.1 = (sRes k n).2.1 ∧ (sRes k n).2.1 < most n) ∨
        ((sRes k n).2.2 = 0 ∧ (sRes k n).2.1 = most n ∧ (sRes k m).2.2 ≠ 0) ∨ ((sRes k n).2.2 = 0 ∧ (sRes k n).2.1 = most n ∧ (sRes k m).2.2 = 0 ∧ (sRes k m).1 = (sRes k n).1) := by
      intro k
      by_cases h : (sRes k n).2.2 = 0
      · rcases sRes_wider k n m (by omega) h with ⟨h4, h5⟩ | ⟨h4, h5⟩
        · rw [h5]
          exact .inr (.inl ⟨h, h, rfl, rfl, h4⟩)
        · by_cases h6 : (sRes k m).2.2 = 0
          · exact .inr (.inr (.inr ⟨h, h4, h6, (h5 h6).symm⟩))
          · exact .inr (.inr (.inl ⟨h, h4, h6⟩))
      · exact .inl h
    by_cases hk : l.length ≤ 1000
    · exact wider_small A l.length cap n m _ _ _ _ _ _ _ _ _ _ _ _ w (by omega) (by omega) (by omega) hl hk
        (told_U hb cap n (by omega) (by omega)) (told_U hb cap m (by omega) (by omega)) (told_S hb cap n (by omega) (by omega)) (told_S hb cap m (by omega) (by omega)) (hU l) (hS l)
    · have e : (l.take 1000).length = 1000 := by simp; omega
      have t1 := told_U (hb.take 1000) cap n (by omega) (by omega)
      have t2 := told_U (hb.take 1000) cap m (by omega) (by omega)
      have t3 := told_S (hb.take 1000) cap n (by omega) (by omega)
      have t4 := told_S (hb.take 1000) cap m (by omega) (by omega)
      rw [e] at t1 t2 t3 t4
      exact wider_great A l.length cap n m _ _ _ _ _ _ _ _ _ _ _ _ w (by omega) (by omega) (by omega) hl (by omega) t1 t2 t3 t4 (hU _) (hS _)
  · exact wider_out A l.length cap n m w hl hm (by omega)
end Go.Proofs.Ytjillijkbmncmaa.Leb
