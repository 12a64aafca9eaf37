/-
  Plain arithmetic of numbers in pieces of seven bits: what bytes are worth, how many lead, what is gathered. No condition; nothing of the program.
-/
import Derived.WalkKit
import Derived.Laws.BitsAllLaws
namespace Go.Proofs.YtelcoeeijkainaaDoor.Leb

/-- What bytes are worth, seven bits each, the lowest first. -/
def val : List Nat → Nat
  | [] => 0
  | x :: l => x % 128 + 128 * val l
/-- How many bytes have their highest bit set, from the first on. -/
def lead : List Nat → Nat
  | [] => 0
  | x :: l => if 128 ≤ x then lead l + 1 else 0
def most (bits : Nat) : Nat := (bits + 6) / 7

theorem val_snoc (l : List Nat) (x : Nat) : val (l ++ [x]) = val l + x % 128 * 128 ^ l.length := by
  induction l with
  | nil => simp [val]
  | cons y l ih =>
    simp only [List.cons_append, val, ih, List.length_cons, Nat.pow_succ, Nat.mul_add]
    have : 128 * (x % 128 * 128 ^ l.length) = x % 128 * (128 ^ l.length * 128) := by
      rw [Nat.mul_comm 128, Nat.mul_assoc]
    omega
theorem val_lt (l : List Nat) : val l < 128 ^ l.length := by
  induction l with
  | nil => simp [val]
  | cons y l ih => simp only [val, List.length_cons, Nat.pow_succ]; omega
theorem lead_le (l : List Nat) : lead l ≤ l.length := by
  induction l with
  | nil => simp [lead]
  | cons y l ih => simp only [lead, List.length_cons]; split <;> omega
/-- Bytes that lead are so many at least, where the first k do. -/
theorem lead_step (l : List Nat) (k : Nat) (hk : k < l.length) (h : k ≤ lead l) : (128 ≤ l[k] → k + 1 ≤ lead l) ∧ (l[k] < 128 → lead l = k) := by
  induction l generalizing k with
  | nil => simp at hk
  | cons y l ih =>
    cases k with
    | zero =>
      simp only [List.getElem_cons_zero, lead]
      constructor
      · intro hy; rw [if_pos hy]; omega
      · intro hy; rw [if_neg (by omega)]
    | succ k =>
      simp only [lead] at h ⊢
      split at h
      · rename_i hy
        have := ih k (by simpa using hk) (by omega)
        simp only [List.getElem_cons_succ]
        rw [if_pos hy]
        exact ⟨fun a => by have := this.1 a; omega, fun a => by have := this.2 a; omega⟩
      · omega
theorem lead_ge (l : List Nat) (k : Nat) (hk : k < l.length) (h : k < lead l) : 128 ≤ l[k] := by
  rcases Nat.lt_or_ge l[k] 128 with hx | hx
  · have := (lead_step l k hk (by omega)).2 hx; omega
  · exact hx
theorem lead_lt (l : List Nat) (h : lead l < l.length) : l[lead l] < 128 := by
  rcases Nat.lt_or_ge (l[lead l]) 128 with hx | hx
  · exact hx
  · have := (lead_step l (lead l) h (Nat.le_refl _)).1 hx; omega
theorem pow7 (k : Nat) : 128 ^ k = 2 ^ (7 * k) := by rw [Nat.pow_mul]
theorem take_snoc (l : List Nat) (k : Nat) (h : k < l.length) : l.take (k + 1) = l.take k ++ [l[k]] := List.take_succ_eq_append_getElem h
theorem val_take (l : List Nat) (k : Nat) (h : k < l.length) : val (l.take (k + 1)) = val (l.take k) + l[k] % 128 * 2 ^ (7 * k) := by
  rw [take_snoc l k h, val_snoc, ← pow7]
  simp [Nat.min_eq_left (Nat.le_of_lt h)]
theorem val_take_lt (l : List Nat) (k : Nat) : val (l.take k) < 2 ^ (7 * k) := by
  refine Nat.lt_of_lt_of_le (val_lt _) ?_
  rw [pow7]
  exact Nat.pow_le_pow_right (by omega) (by have : (l.take k).length ≤ k := List.length_take_le _ _; omega)

theorem mask7 (x : Nat) (hx : x < 256) : bits .and .u8 (x : Int) 127 = ((x % 128 : Nat) : Int) := by
  have := u8_and_nat x 127 hx (by omega)
  rw [nat_mask7] at this
  exact this
theorem mask80 (x : Nat) (hx : x < 256) : bits .and .u8 (x : Int) 128 = ((x / 128 * 128 : Nat) : Int) := by
  have := u8_and_nat x 128 hx (by omega)
  rw [show (128 : Nat) = 2 ^ 7 from rfl, nat_bit 7 x] at this
  rw [show ((x / 128 * 128 : Nat) : Int) = ((x / 2 ^ 7 % 2 * 2 ^ 7 : Nat) : Int) from by omega]
  exact this
def big : Nat := 18446744073709551616
/-- One round of the gathering: a piece more, joined by 'or', cut to 64 bits. -/
theorem join_step (l : List Nat) (k : Nat) (hk : k < l.length) (hm : k < 10) :
    bits .or .u64 ((val (l.take k) : Nat) : Int) (IntKind.u64.wrap (((l[k] % 128 : Nat) : Int) * 2 ^ (7 * k))) = ((val (l.take (k + 1)) % big : Nat) : Int) := by
  have h1 := val_take_lt l k
  have hw : IntKind.u64.wrap (((l[k] % 128 : Nat) : Int) * 2 ^ (7 * k)) = ((l[k] % 128 * 2 ^ (7 * k) % 18446744073709551616 : Nat) : Int) := by
    rw [IntKind.wrap_u64]
    simp
  have hp : (2 : Nat) ^ (7 * k) ≤ 2 ^ 63 := Nat.pow_le_pow_right (by omega) (by omega)
  have hd : 18446744073709551616 = 2 ^ (7 * k) * 2 ^ (64 - 7 * k) := by rw [← Nat.pow_add]; rw [show 7 * k + (64 - 7 * k) = 64 from by omega]
  have hz : l[k] % 128 * 2 ^ (7 * k) % 18446744073709551616 = l[k] % 128 % 2 ^ (64 - 7 * k) * 2 ^ (7 * k) := by
    rw [hd, Nat.mul_comm (l[k] % 128), Nat.mul_mod_mul_left, Nat.mul_comm]
  rw [hw, u64_or_nat _ _ (by omega) (Nat.mod_lt _ (by omega)), Nat.or_comm, nat_join (7 * k) _ _ (by rw [hz]; exact Nat.mul_mod_left _ _) h1, val_take l k hk]
  have hlt : val (l.take k) + l[k] % 128 % 2 ^ (64 - 7 * k) * 2 ^ (7 * k) < 18446744073709551616 := by
    have h2 : l[k] % 128 % 2 ^ (64 - 7 * k) < 2 ^ (64 - 7 * k) := Nat.mod_lt _ (Nat.pow_pos (by omega))
    have h3 : (l[k] % 128 % 2 ^ (64 - 7 * k) + 1) * 2 ^ (7 * k) ≤ 2 ^ (64 - 7 * k) * 2 ^ (7 * k) := Nat.mul_le_mul_right _ h2
    rw [Nat.mul_comm (2 ^ (64 - 7 * k)), ← hd, Nat.add_mul] at h3
    omega
  unfold big
  congr 1
  rw [Nat.add_mod, hz, Nat.mod_eq_of_lt (a := val (l.take k)) (by omega)]
  rw [Nat.mod_eq_of_lt (a := _ + _) (by omega)]
  omega
/-- What the first k bytes are worth, cut to 64 bits. -/
def gv (l : List Nat) (k : Nat) : Nat := val (l.take k) % big
theorem join_gv (l : List Nat) (k : Nat) (hk : k < l.length) (hm : k < 10) :
    bits .or .u64 ((gv l k : Nat) : Int) (IntKind.u64.wrap (((l[k] % 128 : Nat) : Int) * 2 ^ (7 * k))) = ((gv l (k + 1) : Nat) : Int) := by
  have h1 := val_take_lt l k
  have hp : (2 : Nat) ^ (7 * k) ≤ 2 ^ 63 := Nat.pow_le_pow_right (by omega) (by omega)
  have h2 : gv l k = val (l.take k) := Nat.mod_eq_of_lt (by unfold big; omega)
  rw [h2]
  exact join_step l k hk hm
theorem join_x (l : List Nat) (k x : Nat) (hk : k < l.length) (hm : k < 10) (hx : x = l[k]) :
    bits .or .u64 ((gv l k : Nat) : Int) (IntKind.u64.wrap ((x : Int) % 128 * 2 ^ (k * 7))) = ((gv l (k + 1) : Nat) : Int) := by
  subst hx
  rw [← join_gv l k hk hm, Nat.mul_comm]
  rfl
theorem more_no (x : Nat) (hx : x < 128) : (bits .and .u8 (x : Int) 128 == 0) = true := by
  rw [mask80 x (by omega), show x / 128 * 128 = 0 from by omega]; rfl
theorem more_yes (x : Nat) (hx : 128 ≤ x) (h : x < 256) : (bits .and .u8 (x : Int) 128 == 0) = false := by
  rw [mask80 x h, show x / 128 * 128 = 128 from by omega]; rfl
end Go.Proofs.YtelcoeeijkainaaDoor.Leb
