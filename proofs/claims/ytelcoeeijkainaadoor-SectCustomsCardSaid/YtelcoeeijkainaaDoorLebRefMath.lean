/-
  Plain arithmetic of the bits of bytes in pieces of seven, the lowest first, as the reference reads them. No condition but those that each lemma names; nothing of the program.
-/
import Derived.Test.YtelcoeeijkainaaDoorLebMath
namespace Go.Proofs.YtelcoeeijkainaaDoor.Leb

/-- The bit of V at place i. -/
def bitAt (V i : Nat) : Bool := V / 2 ^ i % 2 == 1
theorem bitAt_low (a y k i : Nat) (h : i < k) : bitAt (a + y * 2 ^ k) i = bitAt a i := by
  unfold bitAt
  congr 1
  have e : y * 2 ^ k = 2 ^ i * (2 * (y * 2 ^ (k - i - 1))) := by
    have : 2 ^ k = 2 ^ i * (2 * 2 ^ (k - i - 1)) := by
      rw [← Nat.pow_succ', ← Nat.pow_add]
      congr 1; omega
    rw [this, Nat.mul_left_comm, Nat.mul_left_comm y 2]
  rw [e, Nat.add_mul_div_left _ _ (Nat.pow_pos (by omega)), Nat.add_mul_mod_self_left]
theorem bitAt_high (a y k j : Nat) (h : a < 2 ^ k) : bitAt (a + y * 2 ^ k) (k + j) = bitAt y j := by
  unfold bitAt
  congr 2
  rw [Nat.pow_add, ← Nat.div_div_eq_div_mul, Nat.mul_comm y, Nat.add_mul_div_left _ _ (Nat.pow_pos (by omega)), Nat.div_eq_of_lt h, Nat.zero_add]
theorem bitAt_mod (x j : Nat) (h : j < 7) : bitAt (x % 128) j = bitAt x j := by
  have hx := Nat.mod_add_div x 128
  have := bitAt_low (x % 128) (x / 128) 7 j h
  rw [show x % 128 + x / 128 * 2 ^ 7 = x from by omega] at this
  exact this.symm
/-- The bit that the reference adds: of the k-th byte at place j. -/
theorem bitAt_val (l : List Nat) (k j : Nat) (hk : k < l.length) (hj : j < 7) : bitAt (val (l.take (k + 1))) (7 * k + j) = (l[k] / 2 ^ j % 2 == 1) := by
  rw [val_take l k hk, bitAt_high _ _ _ _ (val_take_lt l k), bitAt_mod _ _ hj]
  rfl
theorem bitAt_val_low (l : List Nat) (k i : Nat) (hk : k < l.length) (hi : i < 7 * k) : bitAt (val (l.take (k + 1))) i = bitAt (val (l.take k)) i := by
  rw [val_take l k hk, bitAt_low _ _ _ _ hi]
/-- The first n bits of V. -/
def bitList (V n : Nat) : List Bool := (List.range n).map (bitAt V)
theorem bitList_len (V n : Nat) : (bitList V n).length = n := by simp [bitList]
theorem bitList_snoc (V n : Nat) : bitList V (n + 1) = bitList V n ++ [bitAt V n] := by simp [bitList, List.range_succ]
theorem bitList_get (V n i : Nat) (h : i < n) : (bitList V n)[i]? = some (bitAt V i) := by simp [bitList, h]
theorem bitList_congr (V V' n : Nat) (h : ∀ i, i < n → bitAt V i = bitAt V' i) : bitList V n = bitList V' n := by
  unfold bitList
  apply List.map_congr_left
  intro i hi
  exact h i (by simpa using hi)
theorem bitList_next (l : List Nat) (k : Nat) (hk : k < l.length) : bitList (val (l.take k)) (7 * k) = bitList (val (l.take (k + 1))) (7 * k) :=
  bitList_congr _ _ _ fun i hi => (bitAt_val_low l k i hk hi).symm
/-- The number below place k + 1, by its bit at place k. -/
theorem mod_step (V k : Nat) : V % 2 ^ (k + 1) = V % 2 ^ k + (if bitAt V k = true then 2 ^ k else 0) := by
  have h := Nat.mod_mul (x := V) (a := 2 ^ k) (b := 2)
  rw [← Nat.pow_succ] at h
  rw [h]
  unfold bitAt
  have h2 : V / 2 ^ k % 2 < 2 := Nat.mod_lt _ (by omega)
  by_cases hb : V / 2 ^ k % 2 = 1
  · simp [hb]
  · have h0 : V / 2 ^ k % 2 = 0 := by omega
    simp [h0]
end Go.Proofs.YtelcoeeijkainaaDoor.Leb
