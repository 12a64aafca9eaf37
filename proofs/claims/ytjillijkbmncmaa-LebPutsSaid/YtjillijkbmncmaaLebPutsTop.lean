/-
  trammellaw01.LebPuts answers true for every slice of bytes and every two numbers of 64 bits. Condition: the bytes lie in memory as a slice's cells.
-/
import Derived.Test.YtjillijkbmncmaaLebPutsLaw
namespace Go.Proofs.Ytjillijkbmncmaa.Leb
open Go.RowKit

theorem puts_law (A : Option Addr) (l : List Nat) (cap : Nat) (n m : Int) (w : World) (hn : 0 ≤ n ∧ n ≤ 18446744073709551615) (hm : -9223372036854775808 ≤ m ∧ m ≤ 9223372036854775807)
    (hb : Bytes w w.heap.size A l) (hl : l.length ≤ cap) (hc : A = none → cap = 0) :
    Calls Try.prog 4 #[.slice A l.length cap, .int .u64 n, .int .i64 m] w fun e w' => e = .returned (.bool true) ∧ Below w.heap.size w w' := by
  obtain ⟨n, rfl⟩ := Int.eq_ofNat_of_zero_le hn.1
  have hlu := (putUf_len 9 n).2
  have hls := (putSf_len 9 m).2
  have q1 : ∀ l' : List Nat, l'.length ≤ 1000 → (l' ++ putU n).length ≤ 2000 := fun l' h => by simp only [List.length_append, putU]; omega
  have q2 : ∀ l' : List Nat, l'.length ≤ 1000 → (l' ++ putS m).length ≤ 2000 := fun l' h => by simp only [List.length_append, putS]; omega
  by_cases hk : l.length ≤ 1000
  · exact puts_small A l l.length cap n _ _ _ _ m w hl hk hb (Lib.hid rfl) (Lib.hid hc) (Lib.hid (by omega)) (Lib.hid hm) (Lib.hid rfl) (Lib.hid rfl) (Lib.hid rfl) (Lib.hid rfl) (q1 l hk) (q2 l hk)
  · have e : (l.take 1000).length = 1000 := by simp; omega
    exact puts_great A (l.take 1000) l.length cap n _ _ _ _ m w hl (by omega) (hb.take 1000) (Lib.hid e) (Lib.hid hc) (Lib.hid (by omega)) (Lib.hid hm) (Lib.hid rfl) (Lib.hid rfl) (Lib.hid rfl) (Lib.hid rfl) (q1 _ (by omega)) (q2 _ (by omega))
end Go.Proofs.Ytjillijkbmncmaa.Leb
