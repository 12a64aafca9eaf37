/-
  UtfMath: Plain arithmetic of characters in UTF-8: which bytes are forms of characters, one behind the other; the reference's way (read, and written again) is the same. No condition but those that each lemma names; nothing of the program.
  UtfRef: trammelref02.size, trammelref02.form: what each comes to. Conditions: a byte; a number below 2^21.
  UtfValid: trammelref02.Valid: it tells whether a text's bytes are forms of characters. Condition: the text has at most 2^40 bytes.
  UtfBytes: trammelref02.Bytes, and append of a text onto owned bytes: what each comes to. Condition: the text has at most 2^40 bytes.
  UtfName: trammelref02.Name: what it comes to. Condition: the bytes lie in memory as a slice's cells, and are at most 2^40.
-/
import Derived.WalkKit
import Derived.Test.YtlbbnnljclndkaaQLeb
import Derived.Lib.ConvBytes
import Derived.Deep.RegionWith
import Derived.Deep.RegionHeld3
import Derived.Deep.QuietTactic
import Derived.BigQuiet
import Derived.Lib.AppendStr
import Derived.Laws.BytesArg
namespace Go.Proofs.Ytlbbnnljclndkaa.Utf

/-- How many bytes the character at the head has, told by its first four; 0: there is none. -/
def oneOf (n a b c d : Nat) : Nat :=
  if n = 0 then 0
  else if a < 128 then 1
  else if a < 194 then 0
  else if a < 224 then (if 2 ≤ n ∧ 128 ≤ b ∧ b < 192 then 2 else 0)
  else if a < 240 then (if 3 ≤ n ∧ 128 ≤ b ∧ b < 192 ∧ 128 ≤ c ∧ c < 192 ∧ (a = 224 → 160 ≤ b) ∧ (a = 237 → b < 160) then 3 else 0)
  else if a < 245 then (if 4 ≤ n ∧ 128 ≤ b ∧ b < 192 ∧ 128 ≤ c ∧ c < 192 ∧ 128 ≤ d ∧ d < 192 ∧ (a = 240 → 144 ≤ b) ∧ (a = 244 → b < 144) then 4 else 0)
  else 0
def one (l : List Nat) : Nat := oneOf l.length (l.getD 0 0) (l.getD 1 0) (l.getD 2 0) (l.getD 3 0)
/-- Are bytes forms of characters, one behind the other? (f: at least as many as the bytes are) -/
def vldf : Nat → List Nat → Bool
  | 0, l => l.isEmpty
  | f + 1, l => if l.isEmpty then true else if one l = 0 then false else vldf f (l.drop (one l))
def vld (l : List Nat) : Bool := vldf l.length l
theorem oneOf_le (n a b c d : Nat) : oneOf n a b c d ≤ n ∧ oneOf n a b c d ≤ 4 := by
  unfold oneOf
  repeat' split
  all_goals omega
theorem one_le (l : List Nat) : one l ≤ l.length := (oneOf_le _ _ _ _ _).1
theorem vldf_more (f g : Nat) (l : List Nat) (hf : l.length ≤ f) (hg : l.length ≤ g) : vldf f l = vldf g l := by
  induction f generalizing g l with
  | zero =>
    have : l = [] := List.eq_nil_of_length_eq_zero (by omega)
    subst this
    cases g <;> rfl
  | succ f ih =>
    cases g with
    | zero =>
      have : l = [] := List.eq_nil_of_length_eq_zero (by omega)
      subst this
      rfl
    | succ g =>
      simp only [vldf]
      by_cases h : l.isEmpty = true
      · rw [if_pos h, if_pos h]
      · rw [if_neg h, if_neg h]
        by_cases h1 : one l = 0
        · rw [if_pos h1, if_pos h1]
        · rw [if_neg h1, if_neg h1]
          exact ih g _ (by simp; omega) (by simp; omega)
theorem vld_nil : vld [] = true := rfl
theorem vld_step (l : List Nat) (h : l ≠ []) : vld l = if one l = 0 then false else vld (l.drop (one l)) := by
  unfold vld
  obtain ⟨a, t, rfl⟩ := List.exists_cons_of_ne_nil h
  rw [show (a :: t).length = t.length + 1 from rfl]
  simp only [vldf]
  rw [if_neg (by simp)]
  by_cases h1 : one (a :: t) = 0
  · rw [if_pos h1, if_pos h1]
  · rw [if_neg h1, if_neg h1]
    have := one_le (a :: t)
    exact vldf_more _ _ _ (by simp; omega) (Nat.le_refl _)

/-! The reference's way -/
/-- How long the form is that begins with this byte; 0: none does. -/
def rsize (a : Nat) : Nat := if a < 128 then 1 else if a < 192 then 0 else if a < 224 then 2 else if a < 240 then 3 else if a < 248 then 4 else 0
def rform (c : Nat) : List Nat :=
  if c < 128 then [c] else if c < 2048 then [192 + c / 64, 128 + c % 64] else if c < 65536 then [224 + c / 4096, 128 + c / 64 % 64, 128 + c % 64]
  else [240 + c / 262144, 128 + c / 4096 % 64, 128 + c / 64 % 64, 128 + c % 64]
/-- The character, read out of its form's bytes. -/
def rchar (l : List Nat) : Nat :=
  if rsize (l.getD 0 0) = 1 then l.getD 0 0 % 128
  else if rsize (l.getD 0 0) = 2 then l.getD 0 0 % 32 * 64 + l.getD 1 0 % 64
  else if rsize (l.getD 0 0) = 3 then (l.getD 0 0 % 16 * 64 + l.getD 1 0 % 64) * 64 + l.getD 2 0 % 64
  else ((l.getD 0 0 % 8 * 64 + l.getD 1 0 % 64) * 64 + l.getD 2 0 % 64) * 64 + l.getD 3 0 % 64
/-- Does the reference take the character at the head? -/
def Taken (l : List Nat) : Prop := rsize (l.getD 0 0) ≠ 0 ∧ rsize (l.getD 0 0) ≤ l.length ∧ rchar l ≤ 1114111 ∧ ¬ (55296 ≤ rchar l ∧ rchar l ≤ 57343) ∧ rform (rchar l) = l.take (rsize (l.getD 0 0))
theorem form2 (a b : Nat) (h1 : 192 ≤ a) (h2 : a < 224) (_hb : b < 256) : rform (a % 32 * 64 + b % 64) = [a, b] ↔ 194 ≤ a ∧ 128 ≤ b ∧ b < 192 := by
  unfold rform
  by_cases c1 : a % 32 * 64 + b % 64 < 128
  · rw [if_pos c1]; simp; omega
  · rw [if_neg c1, if_pos (by omega)]; simp; omega
theorem form3 (a b c : Nat) (h1 : 224 ≤ a) (h2 : a < 240) (_hb : b < 256) (_hc : c < 256) :
    rform ((a % 16 * 64 + b % 64) * 64 + c % 64) = [a, b, c] ↔ 128 ≤ b ∧ b < 192 ∧ 128 ≤ c ∧ c < 192 ∧ (a = 224 → 160 ≤ b) := by
  unfold rform
  by_cases c1 : (a % 16 * 64 + b % 64) * 64 + c % 64 < 128
  · rw [if_pos c1]; simp; omega
  · rw [if_neg c1]
    by_cases c2 : (a % 16 * 64 + b % 64) * 64 + c % 64 < 2048
    · rw [if_pos c2]; simp; omega
    · rw [if_neg c2, if_pos (by omega)]; simp; omega
theorem form4 (a b c d : Nat) (h1 : 240 ≤ a) (h2 : a < 248) (_hb : b < 256) (_hc : c < 256) (_hd : d < 256) :
    rform (((a % 8 * 64 + b % 64) * 64 + c % 64) * 64 + d % 64) = [a, b, c, d] ↔ 128 ≤ b ∧ b < 192 ∧ 128 ≤ c ∧ c < 192 ∧ 128 ≤ d ∧ d < 192 ∧ (a = 240 → 144 ≤ b) := by
  unfold rform
  by_cases c1 : ((a % 8 * 64 + b % 64) * 64 + c % 64) * 64 + d % 64 < 128
  · rw [if_pos c1]; simp; omega
  · rw [if_neg c1]
    by_cases c2 : ((a % 8 * 64 + b % 64) * 64 + c % 64) * 64 + d % 64 < 2048
    · rw [if_pos c2]; simp; omega
    · rw [if_neg c2]
      by_cases c3 : ((a % 8 * 64 + b % 64) * 64 + c % 64) * 64 + d % 64 < 65536
      · rw [if_pos c3]; simp; omega
      · rw [if_neg c3]; simp; omega
theorem iff_one {p q : Prop} [Decidable q] {n k : Nat} (h : p ↔ q) (e : n = if q then k else 0) : (p → n = k) ∧ (¬ p → n = 0) := by
  constructor
  · intro hp; rw [e, if_pos (h.1 hp)]
  · intro hp; rw [e, if_neg (fun hq => hp (h.2 hq))]
theorem taken_one (l : List Nat) (h : l ≠ []) (hb : ∀ x ∈ l, x < 256) : (Taken l → one l = rsize (l.getD 0 0)) ∧ (¬ Taken l → one l = 0) := by
  obtain ⟨a, t, rfl⟩ := List.exists_cons_of_ne_nil h
  have ha : a < 256 := hb a (by simp)
  have e0 : (a :: t).getD 0 0 = a := rfl
  unfold Taken one rchar
  rw [e0]
  by_cases c1 : a < 128
  · have hs : rsize a = 1 := if_pos c1
    have ho : oneOf (a :: t).length a ((a :: t).getD 1 0) ((a :: t).getD 2 0) ((a :: t).getD 3 0) = 1 := by
      unfold oneOf; rw [if_neg (by simp), if_pos c1]
    rw [hs, ho]
    refine ⟨fun _ => rfl, fun hn => absurd ⟨by omega, by simp, by simp; omega, by simp; omega, ?_⟩ hn⟩
    simp [rform, c1, Nat.mod_eq_of_lt c1]
  by_cases c2 : a < 192
  · have hs : rsize a = 0 := by unfold rsize; rw [if_neg c1, if_pos c2]
    rw [hs]
    refine ⟨fun hp => absurd rfl hp.1, fun _ => ?_⟩
    unfold oneOf; rw [if_neg (by simp), if_neg c1, if_pos (by omega)]
  by_cases c3 : a < 224
  · have hs : rsize a = 2 := by unfold rsize; rw [if_neg c1, if_neg c2, if_pos c3]
    rw [hs]
    match t, hb with
    | [], _ =>
      refine ⟨fun hp => absurd hp.2.1 (by simp), fun _ => ?_⟩
      unfold oneOf; simp; omega
    | b :: t, hb =>
      have hbb : b < 256 := hb b (by simp)
      have key := form2 a b (by omega) c3 hbb
      refine iff_one (q := 194 ≤ a ∧ 128 ≤ b ∧ b < 192) ?_ ?_
      · simp only [List.getD_cons_succ, List.getD_cons_zero, List.length_cons, List.take_succ_cons, List.take_zero]
        rw [if_neg (by omega), if_pos trivial, key]
        omega
      · unfold oneOf
        simp only [List.getD_cons_succ, List.getD_cons_zero, List.length_cons]
        rw [if_neg (by omega), if_neg c1]
        by_cases c4 : a < 194
        · rw [if_pos c4, if_neg (by omega)]
        · rw [if_neg c4, if_pos c3]
          by_cases c5 : 128 ≤ b ∧ b < 192
          · rw [if_pos (by omega), if_pos (by omega)]
          · rw [if_neg (by omega), if_neg (by omega)]
  by_cases c4 : a < 240
  · have hs : rsize a = 3 := by unfold rsize; rw [if_neg c1, if_neg c2, if_neg c3, if_pos c4]
    rw [hs]
    have short : t.length < 2 → (rsize a ≠ 0 ∧ 3 ≤ (a :: t).length → False) ∧ oneOf (a :: t).length a ((a :: t).getD 1 0) ((a :: t).getD 2 0) ((a :: t).getD 3 0) = 0 := by
      intro ht
      refine ⟨fun hp => by have := hp.2; simp at this; omega, ?_⟩
      unfold oneOf
      rw [if_neg (by simp), if_neg c1, if_neg (by omega), if_neg c3, if_pos c4, if_neg (by simp; omega)]
    match t, hb, short with
    | [], _, short => exact ⟨fun hp => absurd hp.2.1 (by simp), fun _ => (short (by simp)).2⟩
    | [b], _, short => exact ⟨fun hp => absurd hp.2.1 (by simp), fun _ => (short (by simp)).2⟩
    | b :: c :: t, hb, _ =>
      have hbb : b < 256 := hb b (by simp)
      have hcb : c < 256 := hb c (by simp)
      have key := form3 a b c (by omega) c4 hbb hcb
      refine iff_one (q := 128 ≤ b ∧ b < 192 ∧ 128 ≤ c ∧ c < 192 ∧ (a = 224 → 160 ≤ b) ∧ (a = 237 → b < 160)) ?_ ?_
      · simp only [List.getD_cons_succ, List.getD_cons_zero, List.length_cons, List.take_succ_cons, List.take_zero]
        rw [if_neg (by omega), if_neg (by omega), if_pos trivial, key]
        omega
      · unfold oneOf
        simp only [List.getD_cons_succ, List.getD_cons_zero, List.length_cons]
        rw [if_neg (by omega), if_neg c1, if_neg (by omega), if_neg c3, if_pos c4]
        by_cases c5 : 128 ≤ b ∧ b < 192 ∧ 128 ≤ c ∧ c < 192 ∧ (a = 224 → 160 ≤ b) ∧ (a = 237 → b < 160)
        · rw [if_pos (by omega), if_pos (by omega)]
        · rw [if_neg (by omega), if_neg (by omega)]
  by_cases c5 : a < 248
  · have hs : rsize a = 4 := by unfold rsize; rw [if_neg c1, if_neg c2, if_neg c3, if_neg c4, if_pos c5]
    rw [hs]
    have short : t.length < 3 → oneOf (a :: t).length a ((a :: t).getD 1 0) ((a :: t).getD 2 0) ((a :: t).getD 3 0) = 0 := by
      intro ht
      unfold oneOf
      rw [if_neg (by simp), if_neg c1, if_neg (by omega), if_neg c3, if_neg c4]
      split
      · rw [if_neg (by simp; omega)]
      · rfl
    match t, hb, short with
    | [], _, short => exact ⟨fun hp => absurd hp.2.1 (by simp), fun _ => short (by simp)⟩
    | [b], _, short => exact ⟨fun hp => absurd hp.2.1 (by simp), fun _ => short (by simp)⟩
    | [b, c], _, short => exact ⟨fun hp => absurd hp.2.1 (by simp), fun _ => short (by simp)⟩
    | b :: c :: d :: t, hb, _ =>
      have hbb : b < 256 := hb b (by simp)
      have hcb : c < 256 := hb c (by simp)
      have hdb : d < 256 := hb d (by simp)
      have key := form4 a b c d (by omega) c5 hbb hcb hdb
      refine iff_one (q := a < 245 ∧ 128 ≤ b ∧ b < 192 ∧ 128 ≤ c ∧ c < 192 ∧ 128 ≤ d ∧ d < 192 ∧ (a = 240 → 144 ≤ b) ∧ (a = 244 → b < 144)) ?_ ?_
      · simp only [List.getD_cons_succ, List.getD_cons_zero, List.length_cons, List.take_succ_cons, List.take_zero]
        rw [if_neg (by omega), if_neg (by omega), if_neg (by omega), key]
        omega
      · unfold oneOf
        simp only [List.getD_cons_succ, List.getD_cons_zero, List.length_cons]
        rw [if_neg (by omega), if_neg c1, if_neg (by omega), if_neg c3, if_neg c4]
        by_cases c6 : a < 245
        · rw [if_pos c6]
          by_cases c7 : 128 ≤ b ∧ b < 192 ∧ 128 ≤ c ∧ c < 192 ∧ 128 ≤ d ∧ d < 192 ∧ (a = 240 → 144 ≤ b) ∧ (a = 244 → b < 144)
          · rw [if_pos (by omega), if_pos (by omega)]
          · rw [if_neg (by omega), if_neg (by omega)]
        · rw [if_neg c6, if_neg (by omega)]
  · have hs : rsize a = 0 := by unfold rsize; rw [if_neg c1, if_neg c2, if_neg c3, if_neg c4, if_neg c5]
    rw [hs]
    refine ⟨fun hp => absurd rfl hp.1, fun _ => ?_⟩
    unfold oneOf; rw [if_neg (by simp), if_neg c1, if_neg (by omega), if_neg c3, if_neg c4, if_neg (by omega)]
end Go.Proofs.Ytlbbnnljclndkaa.Utf
namespace Go.Proofs.Ytlbbnnljclndkaa.Utf
open Go.RowKit Go.Proofs.Ytlbbnnljclndkaa.Leb

/-- A literal list of bytes in new memory, as what a call gives. -/
theorem gives_lit (w : World) (l : List Nat) (hl : ∀ x ∈ l, x < 256) (hn : l.length ≤ 4) :
    GivesB w l l.length (.returned (.slice (some ⟨w.heap.size, 0, none⟩) l.length l.length)) (w.alloc (.cells ((l.map bv).toArray) 5)) := by
  have ho : Own (w.alloc (.cells ((l.map bv).toArray) 5)) w.heap.size (.slice (some ⟨w.heap.size, 0, none⟩) l.length l.length) l := by
    have h := World.ownsRow_lit (base := w.heap.size) (e := 5) (size := 1) w ((l.map bv).toArray) l.length (Nat.le_refl _) (by simp only [maxLen]; omega) (by simp)
    simpa [Own] using h
  obtain ⟨A, c, hv, hb, _, _⟩ := ho.bytes hl
  have hA : A = some ⟨w.heap.size, 0, none⟩ := by injection hv with h1; exact h1.symm
  subst hA
  exact ⟨_, _, rfl, ho, hb, (fun h => by cases h), Nat.le_refl _, (Below.refl _ _).alloc (Nat.le_refl _) _⟩
theorem rform_byte (c : Nat) (h : c < 2097152) : ∀ x ∈ rform c, x < 256 := by
  intro x hx
  unfold rform at hx
  split at hx
  · simp at hx; omega
  · split at hx
    · simp at hx; omega
    · split at hx
      · simp at hx; omega
      · simp at hx; omega
end Go.Proofs.Ytlbbnnljclndkaa.Utf
namespace Go.Proofs.Ytlbbnnljclndkaa.Utf
open Go.RowKit Go.Proofs.Ytlbbnnljclndkaa.Leb

/-- A text's bytes, as numbers. -/
def bl (s : ByteArray) : List Nat := s.data.toList.map UInt8.toNat
theorem data_len (s : ByteArray) : s.data.toList.length = s.size := by rw [Array.length_toList]; rfl
theorem bl_len (s : ByteArray) : (bl s).length = s.size := by unfold bl; rw [List.length_map, data_len]
theorem bl_byte (s : ByteArray) : ∀ x ∈ bl s, x < 256 := by
  intro x hx
  obtain ⟨b, _, rfl⟩ := List.mem_map.1 hx
  exact UInt8.toNat_lt b
theorem conv_below (w : World) (s : ByteArray) : Below w.heap.size w (Lib.bytesWorld w 5 s) :=
  ⟨rfl, rfl, rfl, by rw [Lib.bytesWorld_size]; omega, fun k hk => Lib.bytesWorld_at_old w _ s k hk⟩
theorem conv_bytes (w : World) (s : ByteArray) : Bytes (Lib.bytesWorld w 5 s) (Lib.bytesWorld w 5 s).heap.size (some ⟨w.heap.size, 0, none⟩) (bl s) := by
  refine ⟨bl_byte s, fun _ => ⟨w.heap.size, 0, rfl, by rw [Lib.bytesWorld_size]; omega, fun j hj => ?_⟩⟩
  rw [bl_len] at hj
  rw [Nat.zero_add, Lib.bytesWorld_cell w _ s j hj]
  have hj' : j < s.data.toList.length := by rw [data_len]; exact hj
  simp [bl, List.getD, List.getElem?_eq_getElem hj']
/-- What is left of bytes behind the first n, as a slice expression leads there. -/
theorem bytes_drop {w : World} {B : Nat} {b off c : Nat} {l : List Nat} (h : Bytes w B (some ⟨b, off, none⟩) l) (n : Nat) (hc : l.length ≤ c) :
    Bytes w B (some (if c = n then ⟨b, off, none⟩ else ⟨b, off + n, none⟩)) (l.drop n) := by
  refine ⟨fun x hx => h.1 x (List.mem_of_mem_drop hx), fun hl => ?_⟩
  have hl' : n < l.length := by simp at hl; omega
  obtain ⟨b', off', he, hb, hcell⟩ := h.2 (by omega)
  injection he with he
  injection he with he1 he2
  subst he1; subst he2
  rw [if_neg (by omega)]
  refine ⟨b, off + n, rfl, hb, fun j hj => ?_⟩
  have hj' : n + j < l.length := by simp at hj; omega
  rw [Nat.add_assoc, hcell (n + j) hj']
  simp
theorem int_eq {k : IntKind} {a b : Int} (h : a = b) : Value.int k a = .int k b := by rw [h]
/-- How long a slice value is. -/
def lenOf : Value → Nat
  | .slice _ n _ => n
  | _ => 0
/-- A character in the making: of the first i bytes, the first one cut by m. -/
def part (l : List Nat) (m : Nat) : Nat → Nat
  | 0 => 0
  | 1 => l.getD 0 0 % m
  | i + 2 => part l m (i + 1) * 64 + l.getD (i + 1) 0 % 64
theorem part_lt (l : List Nat) (m i : Nat) (hm : m ≤ 128) (h0 : 1 ≤ m) : part l m (i + 1) < 128 * 64 ^ i := by
  induction i with
  | zero => simp only [part]; have := Nat.mod_lt (l.getD 0 0) h0; omega
  | succ i ih => simp only [part]; rw [Nat.pow_succ]; have := Nat.mod_lt (l.getD (i + 1) 0) (show 64 > 0 by omega); omega
theorem part_lt4 (l : List Nat) (m i : Nat) (hm : m ≤ 128) (h0 : 1 ≤ m) (hi : i ≤ 4) : ((part l m i : Nat) : Int) ≤ 33554432 := by
  cases i with
  | zero => simp [part]
  | succ i =>
    have h1 := part_lt l m i hm h0
    have h2 : (64 : Nat) ^ i ≤ 64 ^ 3 := Nat.pow_le_pow_right (by omega) (by omega)
    omega
theorem part_next (l : List Nat) (m q : Nat) (h : 1 ≤ q) : part l m (q + 1) = part l m q * 64 + l.getD q 0 % 64 := by
  obtain ⟨i, rfl⟩ : ∃ i, q = i + 1 := ⟨q - 1, by omega⟩
  rfl
theorem rform_len (c : Nat) : (rform c).length ≤ 4 := by
  unfold rform
  repeat' split
  all_goals simp
theorem vld_not (l : List Nat) (h : 0 < l.length) (hb : ∀ x ∈ l, x < 256) (hn : ¬ Taken l) : vld l = false := by
  have hne : l ≠ [] := by rintro rfl; simp at h
  rw [vld_step l hne, (taken_one l hne hb).2 hn]; rfl
theorem vld_next (l : List Nat) (h : 0 < l.length) (hb : ∀ x ∈ l, x < 256) (hn : Taken l) : vld l = vld (l.drop (rsize (l.getD 0 0))) := by
  have hne : l ≠ [] := by rintro rfl; simp at h
  rw [vld_step l hne, (taken_one l hne hb).1 hn, if_neg hn.1]
end Go.Proofs.Ytlbbnnljclndkaa.Utf
namespace Go.Proofs.Ytlbbnnljclndkaa.Utf
open Go.RowKit Go.Proofs.Ytlbbnnljclndkaa.Leb

theorem str_cells (s : ByteArray) : Lib.strCells s = (bl s).map bv := by
  unfold Lib.strCells bl
  rw [List.map_map]
  rfl
section
variable {w : World} {ops : Array Oper} {rest : List Oper} {o : Oper} {a : Act} {Q : Exit → Act → World → Prop}
/-- 'append(x, s...)': x is owned, s a text; the new value told as a slice. -/
theorem app_str (hgd : o.guard = none) (sl x : Operand) (ho : o.op = .call { callee := .builtin .append, args := #[sl, x], argTypes := #[50, 9] })
    (base : Nat) (v : Value) (l : List Nat) (hs : a.eval sl = v) (hown : Own w base v l) (hb : ∀ y ∈ l, y < 256) (s : ByteArray) (k : Nat) (hx : a.eval x = .string s)
    (hk : (l ++ bl s).length = k) (hlen : k ≤ 140737488355328) (hbase : base ≤ w.heap.size)
    (h : ∀ A' c' w', Own w' base (.slice A' k c') (l ++ bl s) → Bytes w' w'.heap.size A' (l ++ bl s) → k ≤ c' → (A' = none → c' = 0) → Below base w w' → wpList Try.prog ops Q rest (a.put o.dst (.slice A' k c')) w') : wpList Try.prog ops Q (o :: rest) a w := by
  obtain ⟨i0, hi0, hz0, hz1, hz2⟩ := info_parts u8_info
  have hle : l.length + s.size = k := by rw [← hk, List.length_append, bl_len]
  refine Lib.wpList_append_own_string w hgd sl x _ _ ho base 5 i0 Try.underlying50 Try.underlying9 hi0 hz0 hz1 hz2 v l.length (l.map bv) hs hown s hx (by simp only [maxLen]; omega) (by omega) hbase ?_
  intro v' w' h1 h2 _
  have ho' : Own w' base v' (l ++ bl s) := by
    unfold Own
    rw [List.length_append, List.map_append, bl_len, ← str_cells]
    exact h1
  subst hk
  obtain ⟨A', c', hv, h3, h4, h5⟩ := ho'.bytes (fun y hy => (List.mem_append.1 hy).elim (hb y) (bl_byte s y))
  subst hv
  exact h A' c' w' ho' h3 h4 h5 (below_own hown hbase h2)
end
end Go.Proofs.Ytlbbnnljclndkaa.Utf
namespace Go.Proofs.Ytlbbnnljclndkaa.Utf
open Go.RowKit Go.Proofs.Ytlbbnnljclndkaa.Leb

/-- Bytes as a text. -/
def strOf (l : List Nat) : ByteArray := strOfNums (l.map fun x : Nat => (x : Int))
theorem bl_strOf (l : List Nat) (h : ∀ x ∈ l, x < 256) : bl (strOf l) = l := by
  unfold bl strOf
  rw [strOfNums_data, List.map_map, List.map_map]
  conv => rhs; rw [← List.map_id l]
  apply List.map_congr_left
  intro x hx
  have := h x hx
  simp [Function.comp, UInt8.toNat_ofNat']
  omega
theorem strOf_size (l : List Nat) : (strOf l).size = l.length := by unfold strOf; rw [strOfNums_size, List.length_map]
/-- What a name's reading answers: the text, how many bytes it takes, the error. -/
def nameRes (l : List Nat) : ByteArray × Nat × Nat :=
  if (uRes l 32).2.2 ≠ 0 then (⟨#[]⟩, 0, (uRes l 32).2.2)
  else if l.length - (uRes l 32).2.1 < (uRes l 32).1 then (⟨#[]⟩, 0, 1)
  else if vld ((l.drop (uRes l 32).2.1).take (uRes l 32).1) = false then (⟨#[]⟩, 0, 2)
  else if 64 < (uRes l 32).1 then (⟨#[]⟩, 0, 4)
  else (strOf ((l.drop (uRes l 32).2.1).take (uRes l 32).1), (uRes l 32).2.1 + (uRes l 32).1, 0)
def TellsN (w : World) (r : ByteArray × Nat × Nat) (e : Ending) (w' : World) : Prop := e = .returned (.tuple #[.string r.1, .int .i64 (r.2.1 : Int), .int .i64 (r.2.2 : Int)]) ∧ Below w.heap.size w w'
theorem conv_str {w : World} {B : Nat} {b off : Nat} {l : List Nat} (hb : Bytes w B (some ⟨b, off, none⟩) l) (cap : Nat) :
    (convert 50 9 (.slice (some ⟨b, off, none⟩) l.length cap)).run Try.prog w = .ok (.string (strOf l)) w := by
  refine run_convert_bytes_arg w 50 5 Try.underlying50 Try.underlying5 b off l.length cap _ (by simp) ?_ 9 Try.underlying9
  intro i hi
  obtain ⟨b', off', he, _, hc⟩ := hb.2 (by omega)
  injection he with he
  injection he with h1 h2
  subst h1; subst h2
  rw [hc i hi]
  simp [List.getD, hi]
end Go.Proofs.Ytlbbnnljclndkaa.Utf
