/-
  Plain arithmetic of characters in UTF-8: which bytes are forms of characters, one behind the other; the reference's way (read, and written again) is the same. No condition but those that each lemma names; nothing of the program.
-/
import Derived.WalkKit
namespace Go.Proofs.YtelcoeeijkainaaDoor.Utf

/-- How many bytes the character at the head has, told by its first four; 0: there is none. -/
def oneOf (n a b c d : Nat) : Nat :=
  if n = 0 then 0
  else if a < 128 then 1
  else if a < 194 then 0
  else if a < 224 then (if 2 ≤ n ∧ 128 ≤ b ∧ b < 192 then 2 else 0)
  else if a < 240 then (if 3 ≤ n ∧ 128 ≤ b ∧ b < 192 ∧ 128 ≤ c ∧ c < 192 ∧ (a = 224 → 160 ≤ b) ∧ (a = 237 → b < 160) then 3 else 0)
  else if a < 245 then (if 4 ≤ n ∧ 128 ≤ b ∧ b < 192 ∧ 128 ≤ c ∧ c < 192 ∧ 128 ≤ d ∧ d < 192 ∧ (a = 240 → 144 ≤ b) ∧ (a = 244 → b < 144) then 4 else 0)
  else 0
def one (l : List Nat) : Nat := oneOf l.length (l.getD 0 0) (l.getD 1 0) (l.getD 2 0) (l.getD 3 0)
/-- Are bytes forms of characters, one behind the other? (f: at least as many as the bytes are) -/
def vldf : Nat → List Nat → Bool
  | 0, l => l.isEmpty
  | f + 1, l => if l.isEmpty then true else if one l = 0 then false else vldf f (l.drop (one l))
def vld (l : List Nat) : Bool := vldf l.length l
theorem oneOf_le (n a b c d : Nat) : oneOf n a b c d ≤ n ∧ oneOf n a b c d ≤ 4 := by
  unfold oneOf
  repeat' split
  all_goals omega
theorem one_le (l : List Nat) : one l ≤ l.length := (oneOf_le _ _ _ _ _).1
theorem vldf_more (f g : Nat) (l : List Nat) (hf : l.length ≤ f) (hg : l.length ≤ g) : vldf f l = vldf g l := by
  induction f generalizing g l with
  | zero =>
    have : l = [] := List.eq_nil_of_length_eq_zero (by omega)
    subst this
    cases g <;> rfl
  | succ f ih =>
    cases g with
    | zero =>
      have : l = [] := List.eq_nil_of_length_eq_zero (by omega)
      subst this
      rfl
    | succ g =>
      simp only [vldf]
      by_cases h : l.isEmpty = true
      · rw [if_pos h, if_pos h]
      · rw [if_neg h, if_neg h]
        by_cases h1 : one l = 0
        · rw [if_pos h1, if_pos h1]
        · rw [if_neg h1, if_neg h1]
          exact ih g _ (by simp; omega) (by simp; omega)
theorem vld_nil : vld [] = true := rfl
theorem vld_step (l : List Nat) (h : l ≠ []) : vld l = if one l = 0 then false else vld (l.drop (one l)) := by
  unfold vld
  obtain ⟨a, t, rfl⟩ := List.exists_cons_of_ne_nil h
  rw [show (a :: t).length = t.length + 1 from rfl]
  simp only [vldf]
  rw [if_neg (by simp)]
  by_cases h1 : one (a :: t) = 0
  · rw [if_pos h1, if_pos h1]
  · rw [if_neg h1, if_neg h1]
    have := one_le (a :: t)
    exact vldf_more _ _ _ (by simp; omega) (Nat.le_refl _)

/-! The reference's way -/
/-- How long the form is that begins with this byte; 0: none does. -/
def rsize (a : Nat) : Nat := if a < 128 then 1 else if a < 192 then 0 else if a < 224 then 2 else if a < 240 then 3 else if a < 248 then 4 else 0
def rform (c : Nat) : List Nat :=
  if c < 128 then [c] else if c < 2048 then [192 + c / 64, 128 + c % 64] else if c < 65536 then [224 + c / 4096, 128 + c / 64 % 64, 128 + c % 64]
  else [240 + c / 262144, 128 + c / 4096 % 64, 128 + c / 64 % 64, 128 + c % 64]
/-- The character, read out of its form's bytes. -/
def rchar (l : List Nat) : Nat :=
  if rsize (l.getD 0 0) = 1 then l.getD 0 0 % 128
  else if rsize (l.getD 0 0) = 2 then l.getD 0 0 % 32 * 64 + l.getD 1 0 % 64
  else if rsize (l.getD 0 0) = 3 then (l.getD 0 0 % 16 * 64 + l.getD 1 0 % 64) * 64 + l.getD 2 0 % 64
  else ((l.getD 0 0 % 8 * 64 + l.getD 1 0 % 64) * 64 + l.getD 2 0 % 64) * 64 + l.getD 3 0 % 64
/-- Does the reference take the character at the head? -/
def Taken (l : List Nat) : Prop := rsize (l.getD 0 0) ≠ 0 ∧ rsize (l.getD 0 0) ≤ l.length ∧ rchar l ≤ 1114111 ∧ ¬ (55296 ≤ rchar l ∧ rchar l ≤ 57343) ∧ rform (rchar l) = l.take (rsize (l.getD 0 0))
theorem form2 (a b : Nat) (h1 : 192 ≤ a) (h2 : a < 224) (_hb : b < 256) : rform (a % 32 * 64 + b % 64) = [a, b] ↔ 194 ≤ a ∧ 128 ≤ b ∧ b < 192 := by
  unfold rform
  by_cases c1 : a % 32 * 64 + b % 64 < 128
  · rw [if_pos c1]; simp; omega
  · rw [if_neg c1, if_pos (by omega)]; simp; omega
theorem form3 (a b c : Nat) (h1 : 224 ≤ a) (h2 : a < 240) (_hb : b < 256) (_hc : c < 256) :
    rform ((a % 16 * 64 + b % 64) * 64 + c % 64) = [a, b, c] ↔ 128 ≤ b ∧ b < 192 ∧ 128 ≤ c ∧ c < 192 ∧ (a = 224 → 160 ≤ b) := by
  unfold rform
  by_cases c1 : (a % 16 * 64 + b % 64) * 64 + c % 64 < 128
  · rw [if_pos c1]; simp; omega
  · rw [if_neg c1]
    by_cases c2 : (a % 16 * 64 + b % 64) * 64 + c % 64 < 2048
    · rw [if_pos c2]; simp; omega
    · rw [if_neg c2, if_pos (by omega)]; simp; omega
theorem form4 (a b c d : Nat) (h1 : 240 ≤ a) (h2 : a < 248) (_hb : b < 256) (_hc : c < 256) (_hd : d < 256) :
    rform (((a % 8 * 64 + b % 64) * 64 + c % 64) * 64 + d % 64) = [a, b, c, d] ↔ 128 ≤ b ∧ b < 192 ∧ 128 ≤ c ∧ c < 192 ∧ 128 ≤ d ∧ d < 192 ∧ (a = 240 → 144 ≤ b) := by
  unfold rform
  by_cases c1 : ((a % 8 * 64 + b % 64) * 64 + c % 64) * 64 + d % 64 < 128
  · rw [if_pos c1]; simp; omega
  · rw [if_neg c1]
    by_cases c2 : ((a % 8 * 64 + b % 64) * 64 + c % 64) * 64 + d % 64 < 2048
    · rw [if_pos c2]; simp; omega
    · rw [if_neg c2]
      by_cases c3 : ((a % 8 * 64 + b % 64) * 64 + c % 64) * 64 + d % 64 < 65536
      · rw [if_pos c3]; simp; omega
      · rw [if_neg c3]; simp; omega
theorem iff_one {p q : Prop} [Decidable q] {n k : Nat} (h : p ↔ q) (e : n = if q then k else 0) : (p → n = k) ∧ (¬ p → n = 0) := by
  constructor
  · intro hp; rw [e, if_pos (h.1 hp)]
  · intro hp; rw [e, if_neg (fun hq => hp (h.2 hq))]
theorem taken_one (l : List Nat) (h : l ≠ []) (hb : ∀ x ∈ l, x < 256) : (Taken l → one l = rsize (l.getD 0 0)) ∧ (¬ Taken l → one l = 0) := by
  obtain ⟨a, t, rfl⟩ := List.exists_cons_of_ne_nil h
  have ha : a < 256 := hb a (by simp)
  have e0 : (a :: t).getD 0 0 = a := rfl
  unfold Taken one rchar
  rw [e0]
  by_cases c1 : a < 128
  · have hs : rsize a = 1 := if_pos c1
    have ho : oneOf (a :: t).length a ((a :: t).getD 1 0) ((a :: t).getD 2 0) ((a :: t).getD 3 0) = 1 := by
      unfold oneOf; rw [if_neg (by simp), if_pos c1]
    rw [hs, ho]
    refine ⟨fun _ => rfl, fun hn => absurd ⟨by omega, by simp, by simp; omega, by simp; omega, ?_⟩ hn⟩
    simp [rform, c1, Nat.mod_eq_of_lt c1]
  by_cases c2 : a < 192
  · have hs : rsize a = 0 := by unfold rsize; rw [if_neg c1, if_pos c2]
    rw [hs]
    refine ⟨fun hp => absurd rfl hp.1, fun _ => ?_⟩
    unfold oneOf; rw [if_neg (by simp), if_neg c1, if_pos (by omega)]
  by_cases c3 : a < 224
  · have hs : rsize a = 2 := by unfold rsize; rw [if_neg c1, if_neg c2, if_pos c3]
    rw [hs]
    match t, hb with
    | [], _ =>
      refine ⟨fun hp => absurd hp.2.1 (by simp), fun _ => ?_⟩
      unfold oneOf; simp; omega
    | b :: t, hb =>
      have hbb : b < 256 := hb b (by simp)
      have key := form2 a b (by omega) c3 hbb
      refine iff_one (q := 194 ≤ a ∧ 128 ≤ b ∧ b < 192) ?_ ?_
      · simp only [List.getD_cons_succ, List.getD_cons_zero, List.length_cons, List.take_succ_cons, List.take_zero]
        rw [if_neg (by omega), if_pos trivial, key]
        omega
      · unfold oneOf
        simp only [List.getD_cons_succ, List.getD_cons_zero, List.length_cons]
        rw [if_neg (by omega), if_neg c1]
        by_cases c4 : a < 194
        · rw [if_pos c4, if_neg (by omega)]
        · rw [if_neg c4, if_pos c3]
          by_cases c5 : 128 ≤ b ∧ b < 192
          · rw [if_pos (by omega), if_pos (by omega)]
          · rw [if_neg (by omega), if_neg (by omega)]
  by_cases c4 : a < 240
  · have hs : rsize a = 3 := by unfold rsize; rw [if_neg c1, if_neg c2, if_neg c3, if_pos c4]
    rw [hs]
    have short : t.length < 2 → (rsize a ≠ 0 ∧ 3 ≤ (a :: t).length → False) ∧ oneOf (a :: t).length a ((a :: t).getD 1 0) ((a :: t).getD 2 0) ((a :: t).getD 3 0) = 0 := by
      intro ht
      refine ⟨fun hp => by have := hp.2; simp at this; omega, ?_⟩
      unfold oneOf
      rw [if_neg (by simp), if_neg c1, if_neg (by omega), if_neg c3, if_pos c4, if_neg (by simp; omega)]
    match t, hb, short with
    | [], _, short => exact ⟨fun hp => absurd hp.2.1 (by simp), fun _ => (short (by simp)).2⟩
    | [b], _, short => exact ⟨fun hp => absurd hp.2.1 (by simp), fun _ => (short (by simp)).2⟩
    | b :: c :: t, hb, _ =>
      have hbb : b < 256 := hb b (by simp)
      have hcb : c < 256 := hb c (by simp)
      have key := form3 a b c (by omega) c4 hbb hcb
      refine iff_one (q := 128 ≤ b ∧ b < 192 ∧ 128 ≤ c ∧ c < 192 ∧ (a = 224 → 160 ≤ b) ∧ (a = 237 → b < 160)) ?_ ?_
      · simp only [List.getD_cons_succ, List.getD_cons_zero, List.length_cons, List.take_succ_cons, List.take_zero]
        rw [if_neg (by omega), if_neg (by omega), if_pos trivial, key]
        omega
      · unfold oneOf
        simp only [List.getD_cons_succ, List.getD_cons_zero, List.length_cons]
        rw [if_neg (by omega), if_neg c1, if_neg (by omega), if_neg c3, if_pos c4]
        by_cases c5 : 128 ≤ b ∧ b < 192 ∧ 128 ≤ c ∧ c < 192 ∧ (a = 224 → 160 ≤ b) ∧ (a = 237 → b < 160)
        · rw [if_pos (by omega), if_pos (by omega)]
        · rw [if_neg (by omega), if_neg (by omega)]
  by_cases c5 : a < 248
  · have hs : rsize a = 4 := by unfold rsize; rw [if_neg c1, if_neg c2, if_neg c3, if_neg c4, if_pos c5]
    rw [hs]
    have short : t.length < 3 → oneOf (a :: t).length a ((a :: t).getD 1 0) ((a :: t).getD 2 0) ((a :: t).getD 3 0) = 0 := by
      intro ht
      unfold oneOf
      rw [if_neg (by simp), if_neg c1, if_neg (by omega), if_neg c3, if_neg c4]
      split
      · rw [if_neg (by simp; omega)]
      · rfl
    match t, hb, short with
    | [], _, short => exact ⟨fun hp => absurd hp.2.1 (by simp), fun _ => short (by simp)⟩
    | [b], _, short => exact ⟨fun hp => absurd hp.2.1 (by simp), fun _ => short (by simp)⟩
    | [b, c], _, short => exact ⟨fun hp => absurd hp.2.1 (by simp), fun _ => short (by simp)⟩
    | b :: c :: d :: t, hb, _ =>
      have hbb : b < 256 := hb b (by simp)
      have hcb : c < 256 := hb c (by simp)
      have hdb : d < 256 := hb d (by simp)
      have key := form4 a b c d (by omega) c5 hbb hcb hdb
      refine iff_one (q := a < 245 ∧ 128 ≤ b ∧ b < 192 ∧ 128 ≤ c ∧ c < 192 ∧ 128 ≤ d ∧ d < 192 ∧ (a = 240 → 144 ≤ b) ∧ (a = 244 → b < 144)) ?_ ?_
      · simp only [List.getD_cons_succ, List.getD_cons_zero, List.length_cons, List.take_succ_cons, List.take_zero]
        rw [if_neg (by omega), if_neg (by omega), if_neg (by omega), key]
        omega
      · unfold oneOf
        simp only [List.getD_cons_succ, List.getD_cons_zero, List.length_cons]
        rw [if_neg (by omega), if_neg c1, if_neg (by omega), if_neg c3, if_neg c4]
        by_cases c6 : a < 245
        · rw [if_pos c6]
          by_cases c7 : 128 ≤ b ∧ b < 192 ∧ 128 ≤ c ∧ c < 192 ∧ 128 ≤ d ∧ d < 192 ∧ (a = 240 → 144 ≤ b) ∧ (a = 244 → b < 144)
          · rw [if_pos (by omega), if_pos (by omega)]
          · rw [if_neg (by omega), if_neg (by omega)]
        · rw [if_neg c6, if_neg (by omega)]
  · have hs : rsize a = 0 := by unfold rsize; rw [if_neg c1, if_neg c2, if_neg c3, if_neg c4, if_neg c5]
    rw [hs]
    refine ⟨fun hp => absurd rfl hp.1, fun _ => ?_⟩
    unfold oneOf; rw [if_neg (by simp), if_neg c1, if_neg (by omega), if_neg c3, if_neg c4, if_neg (by omega)]
end Go.Proofs.YtelcoeeijkainaaDoor.Utf
