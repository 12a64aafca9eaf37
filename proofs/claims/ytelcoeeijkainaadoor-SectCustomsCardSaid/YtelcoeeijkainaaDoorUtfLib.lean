/-
  The library's word on texts of characters (its own decoder finds no fault) is ours, bytes by bytes. No condition; nothing of the program.
-/
import Derived.Test.YtelcoeeijkainaaDoorUtfMath
import Derived.Lib.ValidLaws
namespace Go.Proofs.YtelcoeeijkainaaDoor.Utf
open Go.Lib

theorem comb {P : Prop} [Decidable P] {Z o : Nat} {k : Option Nat} (hz : Z ≠ 0) (h1 : k = if P then some Z else none) (h2 : o = if P then Z else 0) : k = if o = 0 then none else some o := by
  subst h1; subst h2
  by_cases h : P
  · simp [h, hz]
  · simp [h]
theorem flip {P Q : Prop} [Decidable P] [Decidable Q] {Z : Nat} (h : P ↔ ¬ Q) : (if P then none else some Z) = if Q then some Z else none := by
  by_cases q : Q
  · rw [if_pos q, if_neg (fun p => h.1 p q)]
  · rw [if_neg q, if_pos (h.2 q)]
/-- The library's look at a first byte from 128 on, and ours. -/
theorem check_one (n a b c d : Nat) (hn : 1 ≤ n) (h0 : 128 ≤ a) (h1 : a < 256) :
    checkN n b c d (firstT a % 8) (accLo (firstT a / 16)) (accHi (firstT a / 16)) = if oneOf n a b c d = 0 then none else some (oneOf n a b c d) := by
  have c2 : ∀ lo hi, checkN n b c d 2 lo hi = if n < 2 ∨ b < lo ∨ hi < b then none else some 2 := fun lo hi => by unfold checkN; rw [if_pos rfl]
  have c3 : ∀ lo hi, checkN n b c d 3 lo hi = if n < 3 ∨ b < lo ∨ hi < b ∨ c < 128 ∨ 191 < c then none else some 3 := fun lo hi => by unfold checkN; rw [if_neg (by omega), if_pos rfl]
  have c4 : ∀ lo hi, checkN n b c d 4 lo hi = if n < 4 ∨ b < lo ∨ hi < b ∨ c < 128 ∨ 191 < c ∨ d < 128 ∨ 191 < d then none else some 4 := fun lo hi => by unfold checkN; rw [if_neg (by omega), if_neg (by omega), if_pos rfl]
  have o0 : a < 194 ∨ 245 ≤ a → oneOf n a b c d = 0 := fun h => by
    unfold oneOf
    repeat' split
    all_goals omega
  have o2 : 194 ≤ a → a < 224 → oneOf n a b c d = if 2 ≤ n ∧ 128 ≤ b ∧ b < 192 then 2 else 0 := fun g h => by
    unfold oneOf
    rw [if_neg (by omega), if_neg (by omega), if_neg (by omega), if_pos h]
  have o3 : 224 ≤ a → a < 240 → oneOf n a b c d = if 3 ≤ n ∧ 128 ≤ b ∧ b < 192 ∧ 128 ≤ c ∧ c < 192 ∧ (a = 224 → 160 ≤ b) ∧ (a = 237 → b < 160) then 3 else 0 := fun g h => by
    unfold oneOf
    rw [if_neg (by omega), if_neg (by omega), if_neg (by omega), if_neg (by omega), if_pos h]
  have o4 : 240 ≤ a → a < 245 → oneOf n a b c d = if 4 ≤ n ∧ 128 ≤ b ∧ b < 192 ∧ 128 ≤ c ∧ c < 192 ∧ 128 ≤ d ∧ d < 192 ∧ (a = 240 → 144 ≤ b) ∧ (a = 244 → b < 144) then 4 else 0 := fun g h => by
    unfold oneOf
    rw [if_neg (by omega), if_neg (by omega), if_neg (by omega), if_neg (by omega), if_neg (by omega), if_pos h]
  have key : ∀ f : Nat, firstT a = f → checkN n b c d (f % 8) (accLo (f / 16)) (accHi (f / 16)) = (if oneOf n a b c d = 0 then none else some (oneOf n a b c d)) →
      checkN n b c d (firstT a % 8) (accLo (firstT a / 16)) (accHi (firstT a / 16)) = if oneOf n a b c d = 0 then none else some (oneOf n a b c d) := fun f e h => by rw [e]; exact h
  have hf : ∀ f : Nat, (a < 194 ∧ f = 241 ∨ 194 ≤ a ∧ a < 224 ∧ f = 2 ∨ a = 224 ∧ f = 19 ∨ 224 < a ∧ a < 240 ∧ a ≠ 237 ∧ f = 3 ∨ a = 237 ∧ f = 35 ∨ a = 240 ∧ f = 52 ∨ 240 < a ∧ a < 244 ∧ f = 4 ∨ a = 244 ∧ f = 68 ∨ 244 < a ∧ f = 241) → firstT a = f := fun f h => by
    unfold firstT
    repeat' split
    all_goals omega
  by_cases k0 : a < 194
  · refine key 241 (hf _ (by omega)) ?_
    rw [o0 (.inl k0)]; rfl
  by_cases k1 : a < 224
  · refine key 2 (hf _ (by omega)) ?_
    refine comb (Z := 2) (by omega) ?_ (o2 (by omega) k1)
    exact (c2 128 191).trans (flip (by omega))
  by_cases k2 : a = 224
  · refine key 19 (hf _ (by omega)) ?_
    refine comb (Z := 3) (by omega) ?_ (o3 (by omega) (by omega))
    exact (c3 160 191).trans (flip (by omega))
  by_cases k3 : a = 237
  · refine key 35 (hf _ (by omega)) ?_
    refine comb (Z := 3) (by omega) ?_ (o3 (by omega) (by omega))
    exact (c3 128 159).trans (flip (by omega))
  by_cases k4 : a < 240
  · refine key 3 (hf _ (by omega)) ?_
    refine comb (Z := 3) (by omega) ?_ (o3 (by omega) (by omega))
    exact (c3 128 191).trans (flip (by omega))
  by_cases k5 : a = 240
  · refine key 52 (hf _ (by omega)) ?_
    refine comb (Z := 4) (by omega) ?_ (o4 (by omega) (by omega))
    exact (c4 144 191).trans (flip (by omega))
  by_cases k6 : a = 244
  · refine key 68 (hf _ (by omega)) ?_
    refine comb (Z := 4) (by omega) ?_ (o4 (by omega) (by omega))
    exact (c4 128 143).trans (flip (by omega))
  by_cases k7 : a < 244
  · refine key 4 (hf _ (by omega)) ?_
    refine comb (Z := 4) (by omega) ?_ (o4 (by omega) (by omega))
    exact (c4 128 191).trans (flip (by omega))
  · refine key 241 (hf _ (by omega)) ?_
    rw [o0 (.inr (by omega))]; rfl
theorem getD_nat (l : List UInt8) (i : Nat) : (l.map UInt8.toNat).getD i 0 = (l.getD i 0).toNat := by
  simp only [List.getD, List.getElem?_map]
  cases l[i]? <;> rfl
theorem validD_vld (n : Nat) (l : List UInt8) (hn : l.length ≤ n) : Lib.validD l = vld (l.map UInt8.toNat) := by
  induction n generalizing l with
  | zero =>
    have : l = [] := List.eq_nil_of_length_eq_zero (by omega)
    subst this
    rfl
  | succ n ih =>
    cases l with
    | nil => rfl
    | cons x t =>
      have hm : (x :: t).map UInt8.toNat ≠ [] := by simp
      rw [vld_step _ hm]
      by_cases hx : x.toNat < 128
      · have h1 : one ((x :: t).map UInt8.toNat) = 1 := by
          unfold one oneOf
          simp [hx]
        rw [h1, if_neg (by omega), validD_cons x t hx, ih t (by simp at hn; omega)]
        rfl
      · rw [validD_lead (x :: t) (by simp) (by simpa using hx)]
        have hc := check_one (x :: t).length ((x :: t).getD 0 0).toNat ((x :: t).getD 1 0).toNat ((x :: t).getD 2 0).toNat ((x :: t).getD 3 0).toNat (by simp) (by simpa using hx) (UInt8.toNat_lt _)
        have h1 : one ((x :: t).map UInt8.toNat) = oneOf (x :: t).length ((x :: t).getD 0 0).toNat ((x :: t).getD 1 0).toNat ((x :: t).getD 2 0).toNat ((x :: t).getD 3 0).toNat := by
          unfold one
          rw [getD_nat, getD_nat, getD_nat, getD_nat, List.length_map]
        rw [hc, h1]
        by_cases h0 : oneOf (x :: t).length ((x :: t).getD 0 0).toNat ((x :: t).getD 1 0).toNat ((x :: t).getD 2 0).toNat ((x :: t).getD 3 0).toNat = 0
        · rw [if_pos h0, if_pos h0]
        · rw [if_neg h0, if_neg h0]
          have := ih ((x :: t).drop (oneOf (x :: t).length ((x :: t).getD 0 0).toNat ((x :: t).getD 1 0).toNat ((x :: t).getD 2 0).toNat ((x :: t).getD 3 0).toNat)) (by rw [List.length_drop]; omega)
          rw [List.map_drop] at this
          exact this
end Go.Proofs.YtelcoeeijkainaaDoor.Utf
