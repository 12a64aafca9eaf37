/-
  trammellaw01.LebBack answers true for every two numbers, every number of bits and every slice of bytes. Condition: the bytes lie in memory as a slice's cells.
-/
import Derived.Test.YtjillijkbmncmaaLebBackLaw
namespace Go.Proofs.Ytjillijkbmncmaa.Leb
open Go.RowKit

theorem low_fits (m : Int) (b : Nat) (h0 : 1 ≤ b) (h64 : b ≤ 64) (h : wrap64 (m * 2 ^ (64 - b)) / 2 ^ (64 - b) = m) : -(2 ^ (b - 1)) ≤ m ∧ m < 2 ^ (b - 1) := by
  have hw : -9223372036854775808 ≤ wrap64 (m * 2 ^ (64 - b)) ∧ wrap64 (m * 2 ^ (64 - b)) < 9223372036854775808 := by rw [wrap64_def]; omega
  have hpos : (0 : Int) < 2 ^ (64 - b) := Int.pow_pos (by omega)
  have e : (9223372036854775808 : Int) = 2 ^ (b - 1) * 2 ^ (64 - b) := by
    rw [← Int.pow_add, show b - 1 + (64 - b) = 63 from by omega]; rfl
  rw [e] at hw
  generalize wrap64 (m * 2 ^ (64 - b)) = X at *
  rw [← h]
  constructor
  · rw [Int.le_ediv_iff_mul_le hpos, Int.neg_mul]; exact hw.1
  · rw [Int.ediv_lt_iff_lt_mul hpos]; exact hw.2
theorem shr_fits (n b : Nat) (h : ((n : Int) / 2 ^ b == 0) = true) : n < 2 ^ b := by
  have h1 : (n : Int) / 2 ^ b = 0 := by simpa using h
  have h2 : ((n / 2 ^ b : Nat) : Int) = 0 := by simpa using h1
  have h3 : n / 2 ^ b = 0 := by omega
  exact (Nat.div_eq_zero_iff_lt (Nat.pow_pos (by omega))).1 h3
theorem back_law (n m b : Int) (A : Option Addr) (l : List Nat) (cap : Nat) (w : World) (hn : 0 ≤ n ∧ n ≤ 18446744073709551615) (hm : -9223372036854775808 ≤ m ∧ m ≤ 9223372036854775807)
    (hb : Bytes w w.heap.size A l) (hl : l.length ≤ cap) (hc : A = none → cap = 0) :
    Calls Try.prog 5 #[.int .u64 n, .int .i64 m, .int .i64 b, .slice A l.length cap] w fun e w' => e = .returned (.bool true) ∧ Below w.heap.size w w' := by
  by_cases hin : 1 ≤ b ∧ b ≤ 64
  · obtain ⟨n, rfl⟩ := Int.eq_ofNat_of_zero_le hn.1
    obtain ⟨b, rfl⟩ := Int.eq_ofNat_of_zero_le (show 0 ≤ b by omega)
    have h0 : 1 ≤ b := by omega
    have h64 : b ≤ 64 := by omega
    have hn' : n < 18446744073709551616 := by omega
    have hlu := (putUf_len 9 n).2
    have hls := (putSf_len 9 m).2
    have q1 : ∀ l' : List Nat, l'.length ≤ 1000 → (putU n ++ l').length ≤ 2000 := fun l' h => by simp only [List.length_append, putU]; omega
    have q2 : ∀ l' : List Nat, l'.length ≤ 1000 → (putS m ++ l').length ≤ 2000 := fun l' h => by simp only [List.length_append, putS]; omega
    by_cases hk : l.length ≤ 1000
    · cases t3 : (wrap64 (m * 2 ^ (64 - b)) / 2 ^ (64 - b) == m) with
      | true =>
        have hs := sRes_put m b l h0 h64 (low_fits m b h0 h64 (by simpa using t3))
        cases t1 : ((b : Int) == 64) with
        | true =>
          have hu := uRes_put n b l h0 h64 (by have : b = 64 := by simp at t1; omega
                                               subst this; exact hn')
          exact back_small_ay A l l.length cap n b _ _ _ _ m w hl hk h0 h64 hb (Lib.hid rfl) hc t1 (Lib.hid hn') (Lib.hid rfl) (Lib.hid rfl) (q1 l hk) (Lib.hid hu) t3 (Lib.hid hm) (Lib.hid rfl) (Lib.hid rfl) (q2 l hk) (Lib.hid hs)
        | false =>
          cases t2 : ((n : Int) / 2 ^ b == 0) with
          | true =>
            have hu := uRes_put n b l h0 h64 (shr_fits n b t2)
            exact back_small_by A l l.length cap n b _ _ _ _ m w hl hk h0 h64 hb (Lib.hid rfl) hc t1 t2 (Lib.hid hn') (Lib.hid rfl) (Lib.hid rfl) (q1 l hk) (Lib.hid hu) t3 (Lib.hid hm) (Lib.hid rfl) (Lib.hid rfl) (q2 l hk) (Lib.hid hs)
          | false => exact back_small_cy A l l.length cap n b _ _ m w hl hk h0 h64 hb (Lib.hid rfl) hc t1 t2 t3 (Lib.hid hm) (Lib.hid rfl) (Lib.hid rfl) (q2 l hk) (Lib.hid hs)
      | false =>
        cases t1 : ((b : Int) == 64) with
        | true =>
          have hu := uRes_put n b l h0 h64 (by have : b = 64 := by simp at t1; omega
                                               subst this; exact hn')
          exact back_small_an A l l.length cap n b _ _ m w hl hk h0 h64 hb (Lib.hid rfl) hc t1 (Lib.hid hn') (Lib.hid rfl) (Lib.hid rfl) (q1 l hk) (Lib.hid hu) t3
        | false =>
          cases t2 : ((n : Int) / 2 ^ b == 0) with
          | true =>
            have hu := uRes_put n b l h0 h64 (shr_fits n b t2)
            exact back_small_bn A l l.length cap n b _ _ m w hl hk h0 h64 hb (Lib.hid rfl) hc t1 t2 (Lib.hid hn') (Lib.hid rfl) (Lib.hid rfl) (q1 l hk) (Lib.hid hu) t3
          | false => exact back_small_cn A l l.length cap n b m w hl hk h0 h64 hb (Lib.hid rfl) hc t1 t2 t3
    · have hB := hb.take 1000
      have e : (l.take 1000).length = 1000 := by simp; omega
      have hK : (l.take 1000).length ≤ 1000 := by omega
      generalize l.take 1000 = l' at *
      cases t3 : (wrap64 (m * 2 ^ (64 - b)) / 2 ^ (64 - b) == m) with
      | true =>
        have hs := sRes_put m b l' h0 h64 (low_fits m b h0 h64 (by simpa using t3))
        cases t1 : ((b : Int) == 64) with
        | true =>
          have hu := uRes_put n b l' h0 h64 (by have : b = 64 := by simp at t1; omega
                                                subst this; exact hn')
          exact back_great_ay A l' l.length cap n b _ _ _ _ m w hl (by omega) h0 h64 hB (Lib.hid e) hc t1 (Lib.hid hn') (Lib.hid rfl) (Lib.hid rfl) (q1 l' hK) (Lib.hid hu) t3 (Lib.hid hm) (Lib.hid rfl) (Lib.hid rfl) (q2 l' hK) (Lib.hid hs)
        | false =>
          cases t2 : ((n : Int) / 2 ^ b == 0) with
          | true =>
            have hu := uRes_put n b l' h0 h64 (shr_fits n b t2)
            exact back_great_by A l' l.length cap n b _ _ _ _ m w hl (by omega) h0 h64 hB (Lib.hid e) hc t1 t2 (Lib.hid hn') (Lib.hid rfl) (Lib.hid rfl) (q1 l' hK) (Lib.hid hu) t3 (Lib.hid hm) (Lib.hid rfl) (Lib.hid rfl) (q2 l' hK) (Lib.hid hs)
          | false => exact back_great_cy A l' l.length cap n b _ _ m w hl (by omega) h0 h64 hB (Lib.hid e) hc t1 t2 t3 (Lib.hid hm) (Lib.hid rfl) (Lib.hid rfl) (q2 l' hK) (Lib.hid hs)
      | false =>
        cases t1 : ((b : Int) == 64) with
        | true =>
          have hu := uRes_put n b l' h0 h64 (by have : b = 64 := by simp at t1; omega
                                                subst this; exact hn')
          exact back_great_an A l' l.length cap n b _ _ m w hl (by omega) h0 h64 hB (Lib.hid e) hc t1 (Lib.hid hn') (Lib.hid rfl) (Lib.hid rfl) (q1 l' hK) (Lib.hid hu) t3
        | false =>
          cases t2 : ((n : Int) / 2 ^ b == 0) with
          | true =>
            have hu := uRes_put n b l' h0 h64 (shr_fits n b t2)
            exact back_great_bn A l' l.length cap n b _ _ m w hl (by omega) h0 h64 hB (Lib.hid e) hc t1 t2 (Lib.hid hn') (Lib.hid rfl) (Lib.hid rfl) (q1 l' hK) (Lib.hid hu) t3
          | false => exact back_great_cn A l' l.length cap n b m w hl (by omega) h0 h64 hB (Lib.hid e) hc t1 t2 t3
  · exact back_out A l.length cap n m b w hl (by omega)
end Go.Proofs.Ytjillijkbmncmaa.Leb
