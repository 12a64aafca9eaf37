/-
  trammelref04's Load and Store for every code, in plain words; what pack's three functions are held to (a premise, 'Does T': under what T says of the world they answer as the reference does). Conditions as each lemma says.
-/
import Derived.Test.YtaagingcjmkcdaaPackStore
namespace Go.Proofs.Ytaagingcjmkcdaa.Pack
open Go.RowKit Leb

theorem kind_right : ∀ k ∈ kinds, 1 ≤ k.bytes ∧ k.bytes ≤ 8 ∧ ((k.bits = 32 ∧ k.bytes ≤ 4) ∨ (k.bits = 64 ∧ k.bytes ≤ 8)) := by decide
theorem kindOf_right {op : Int} {k : Kind} (h : kindOf op = some k) : 1 ≤ k.bytes ∧ k.bytes ≤ 8 ∧ ((k.bits = 32 ∧ k.bytes ≤ 4) ∨ (k.bits = 64 ∧ k.bytes ≤ 8)) := kind_right k (List.mem_of_find?_eq_some h)
/-- What Load answers. -/
def ldVal (op : Int) (l : List Nat) : Nat × Bool :=
  match kindOf op with
  | none => (0, false)
  | some k => if k.store = true ∨ k.bytes ≠ l.length then (0, false) else (le (full k.signed (k.bits / 8) l), true)
/-- What Store answers. -/
def stVal (op : Int) (n : Nat) : List Nat × Bool :=
  match kindOf op with
  | none => ([], false)
  | some k => if k.store = true then (bytesOf k.bytes n, true) else ([], false)
/-- What Access answers: the type, how many bytes, whether it is a store, whether it is one. -/
def accVal (op : Int) : Int × Nat × Bool × Bool :=
  match kindOf op with
  | none => (0, 0, false, false)
  | some k => (if k.bits = 32 then 127 else 126, k.bytes, k.store, true)
theorem rload_any (op : Int) (A : Option Addr) (l : List Nat) (c : Nat) (w : World) (hb : Bytes w w.heap.size A l) :
    Calls Try.prog 11 #[.int .i64 op, .slice A l.length c] w (Num2 w (ldVal op l).1 (ldVal op l).2) := by
  have HO := of_any op w
  unfold OfIs at HO
  unfold ldVal
  cases hk : kindOf op with
  | none =>
    rw [hk] at HO
    exact load_none op 0 0 0 false false A l.length c w (Lib.hid HO)
  | some k =>
    rw [hk] at HO
    obtain ⟨h1, h2, h3⟩ := kindOf_right hk
    obtain ⟨o, bits, bytes, s, st⟩ := k
    simp only at h1 h2 h3 ⊢
    cases st with
    | true =>
      rw [if_pos (Or.inl rfl)]
      exact load_store op o bits bytes s A l.length c w (Lib.hid HO)
    | false =>
      by_cases hl : bytes = l.length
      · rw [if_neg (by simp [hl])]
        subst hl
        refine load_run op o (bits / 8) s A l c _ bits w ?_ h1 ?_ hb rfl (Lib.hid HO)
        · rcases h3 with ⟨rfl, _⟩ | ⟨rfl, _⟩ <;> simp
        · rcases h3 with ⟨rfl, h⟩ | ⟨rfl, h⟩ <;> simpa using h
      · rw [if_pos (Or.inr hl)]
        exact load_len op o bits bytes s A l.length c w hl (Lib.hid HO)
theorem rstore_any (op : Int) (n : Nat) (w : World) (hn : n < 18446744073709551616) :
    Calls Try.prog 13 #[.int .i64 op, .int .u64 (n : Int)] w (Gives2 w (stVal op n).1 (stVal op n).2) := by
  have HO := of_any op w
  unfold OfIs at HO
  unfold stVal
  cases hk : kindOf op with
  | none =>
    rw [hk] at HO
    exact store_none op 0 0 0 false false n w (Lib.hid HO)
  | some k =>
    rw [hk] at HO
    obtain ⟨h1, h2, h3⟩ := kindOf_right hk
    obtain ⟨o, bits, bytes, s, st⟩ := k
    simp only at h1 h2 h3 ⊢
    cases st with
    | true =>
      rw [if_pos rfl]
      exact store_run op o bits bytes s n w h2 hn (Lib.hid HO)
    | false =>
      rw [if_neg (by simp)]
      exact store_load op o bits bytes s n w (Lib.hid HO)
theorem stVal_byte (op : Int) (n : Nat) : ∀ x ∈ (stVal op n).1, x < 256 := by
  unfold stVal
  cases kindOf op with
  | none => simp
  | some k =>
    simp only
    split
    · exact bytesOf_byte _ _
    · simp
theorem stVal_len (op : Int) (n : Nat) : (stVal op n).1.length ≤ 8 := by
  unfold stVal
  cases hk : kindOf op with
  | none => simp
  | some k =>
    simp only
    split
    · rw [bytesOf_len]; exact (kindOf_right hk).2.1
    · simp
/-- Bytes, and whether there are any, told as a slice. -/
def GivesS (w : World) (l : List Nat) (ok : Bool) (k : Nat) (e : Ending) (w' : World) : Prop :=
  ∃ A c, e = .returned (.tuple #[.slice A k c, .bool ok]) ∧ Bytes w' w'.heap.size A l ∧ (A = none → c = 0) ∧ k ≤ c ∧ Below w.heap.size w w'
theorem gives_s {P : Program} {f : FuncId} {args : Array Value} {w : World} {l : List Nat} {ok : Bool} {k : Nat} (h : Calls P f args w (Gives2 w l ok)) (hl : ∀ x ∈ l, x < 256) (hk : l.length = k) : Calls P f args w (GivesS w l ok k) := by
  refine h.mono ?_
  rintro e w' ⟨v, rfl, hown, hbel⟩
  subst hk
  obtain ⟨A, c, rfl, hb, hc, h0⟩ := hown.bytes hl
  exact ⟨A, c, rfl, hb, h0, hc, hbel⟩
def I64 (n : Int) : Prop := -9223372036854775808 ≤ n ∧ n ≤ 9223372036854775807
def Acc4 (w : World) (r : Int × Nat × Bool × Bool) (e : Ending) (w' : World) : Prop := e = .returned (.tuple #[.int .i64 r.1, .int .i64 (r.2.1 : Int), .bool r.2.2.1, .bool r.2.2.2]) ∧ Below w.heap.size w w'
/-- pack's functions answer as the reference's do. -/
structure Does (T : World → Prop) : Prop where
  keep : ∀ w w', T w → Below w.heap.size w w' → T w'
  acc : ∀ (op : Int) (w : World), I64 op → T w → Calls Try.prog 9 #[.int .i64 op] w (Acc4 w (accVal op))
  load : ∀ (op : Int) (A : Option Addr) (l : List Nat) (c : Nat) (w : World), I64 op → Bytes w w.heap.size A l → (A = none → c = 0) → l.length ≤ c → l.length ≤ 100 → T w →
    Calls Try.prog 10 #[.int .i64 op, .slice A l.length c] w (Num2 w (ldVal op l).1 (ldVal op l).2)
  store : ∀ (op : Int) (n k : Nat) (w : World), I64 op → n < 18446744073709551616 → (stVal op n).1.length = k → T w → Calls Try.prog 12 #[.int .i64 op, .int .u64 (n : Int)] w (GivesS w (stVal op n).1 (stVal op n).2 k)
end Go.Proofs.Ytaagingcjmkcdaa.Pack
