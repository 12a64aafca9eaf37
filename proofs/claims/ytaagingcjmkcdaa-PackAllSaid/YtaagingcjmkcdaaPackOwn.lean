/-
  pack.Access, pack.Load, pack.Store do as the reference does: the premise of the laws. No condition.
-/
import Derived.Test.YtaagingcjmkcdaaPackJoin
namespace Go.Proofs.Ytaagingcjmkcdaa.Pack
open Go.RowKit Leb

theorem le_app (l m : List Nat) : le (l ++ m) = le l + 256 ^ l.length * le m := by
  induction l with
  | nil => simp [le]
  | cons y l ih =>
    simp only [List.cons_append, le, ih, List.length_cons, Nat.pow_succ, Nat.mul_add]
    have : 256 * (256 ^ l.length * le m) = 256 ^ l.length * 256 * le m := by
      rw [← Nat.mul_assoc, Nat.mul_comm 256]
    omega
theorem le_rep0 (m : Nat) : le (List.replicate m 0) = 0 := by
  induction m with
  | zero => rfl
  | succ m ih => simp [List.replicate_succ, le, ih]
theorem le_rep255 (m : Nat) : le (List.replicate m 255) + 1 = 256 ^ m := by
  induction m with
  | zero => rfl
  | succ m ih => rw [List.replicate_succ, le, Nat.pow_succ, ← ih]; omega
theorem full_plain (N : Nat) (l : List Nat) : le (full false N l) = le l := by
  unfold full
  rw [show fill false l = 0 from by simp [fill], le_app, le_rep0]
  omega
theorem le_top (l : List Nat) (h : 1 ≤ l.length) (hb : ∀ x ∈ l, x < 256) : (127 < l.getD (l.length - 1) 0) ↔ 2 ^ (8 * l.length - 1) ≤ le l := by
  obtain ⟨m, x, rfl⟩ : ∃ m x, l = m ++ [x] := by
    rcases List.eq_nil_or_concat l with rfl | ⟨m, x, rfl⟩
    · simp at h
    · exact ⟨m, x, by simp⟩
  have h1 := le_lt m (fun y hy => hb y (by simp [hy]))
  rw [le_snoc, List.length_append, List.length_singleton]
  have e : (m ++ [x]).getD (m.length + 1 - 1) 0 = x := by simp
  have e2 : (2 : Nat) ^ (8 * (m.length + 1) - 1) = 128 * 256 ^ m.length := by
    rw [show 8 * (m.length + 1) - 1 = 7 + 8 * m.length from by omega, Nat.pow_add, Nat.pow_mul]
  rw [e, e2]
  generalize 256 ^ m.length = P at *
  constructor
  · intro hx
    have := Nat.mul_le_mul_right P (show 128 ≤ x from hx)
    omega
  · intro hx
    rcases Nat.lt_or_ge 127 x with h2 | h2
    · exact h2
    · have := Nat.mul_le_mul_right P (show x + 1 ≤ 128 by omega)
      rw [Nat.add_mul] at this
      omega
theorem full_signed (N : Nat) (l : List Nat) (h : 1 ≤ l.length) (hN : l.length ≤ N) (hb : ∀ x ∈ l, x < 256) : le (full true N l) = extV l.length N (le l) := by
  have ht := le_top l h hb
  unfold full extV fill
  rw [le_app]
  by_cases hc : 127 < l.getD (l.length - 1) 0
  · rw [if_pos ⟨rfl, hc⟩, if_pos (ht.1 hc)]
    have h1 := le_rep255 (N - l.length)
    have h2 : 256 ^ N = 256 ^ l.length * 256 ^ (N - l.length) := by rw [← Nat.pow_add, show l.length + (N - l.length) = N from by omega]
    rw [h2, ← h1, Nat.mul_add]
    omega
  · rw [if_neg (fun x => hc x.2), if_neg (fun x => hc (ht.2 x)), le_rep0]
    omega
section
variable (op t : Int) (s : Nat) (A : Option Addr) (len c : Nat) (w : World)
set_option maxHeartbeats 1000000 in
theorem oload_none (HF : Hid (Calls Try.prog 15 #[.int .i64 op] w fun e w' => e = .returned (.agg #[.int .i64 t, .int .i64 (s : Int), .int .i64 0]) ∧ Below w.heap.size w w')) :
    Calls Try.prog 10 #[.int .i64 op, .slice A len c] w (Num2 w 0 false) := by
  go_enter Try.func10, Try.ntmps10
  go_wp2_with fail
  refine HF.out.mono ?_
  rintro e w1 ⟨rfl, hb1⟩
  go_wp2
  go_ret2
  exact ⟨rfl, bel_kind hb1 _⟩
set_option maxHeartbeats 1000000 in
theorem oload_store (HF : Hid (Calls Try.prog 15 #[.int .i64 op] w fun e w' => e = .returned (.agg #[.int .i64 t, .int .i64 (s : Int), .int .i64 3]) ∧ Below w.heap.size w w')) :
    Calls Try.prog 10 #[.int .i64 op, .slice A len c] w (Num2 w 0 false) := by
  go_enter Try.func10, Try.ntmps10
  go_wp2_with fail
  refine HF.out.mono ?_
  rintro e w1 ⟨rfl, hb1⟩
  go_wp2
  go_ret2
  exact ⟨rfl, bel_kind hb1 _⟩
set_option maxHeartbeats 1000000 in
theorem oload_len1 (hl : s ≠ len) (HF : Hid (Calls Try.prog 15 #[.int .i64 op] w fun e w' => e = .returned (.agg #[.int .i64 t, .int .i64 (s : Int), .int .i64 1]) ∧ Below w.heap.size w w')) :
    Calls Try.prog 10 #[.int .i64 op, .slice A len c] w (Num2 w 0 false) := by
  have hne : ((len : Int) != (s : Int)) = true := by simp; omega
  clear hl
  go_enter Try.func10, Try.ntmps10
  go_wp2_with fail
  refine HF.out.mono ?_
  rintro e w1 ⟨rfl, hb1⟩
  go_wp2
  go_ret2
  exact ⟨rfl, bel_kind hb1 _⟩
set_option maxHeartbeats 1000000 in
theorem oload_len2 (hl : s ≠ len) (HF : Hid (Calls Try.prog 15 #[.int .i64 op] w fun e w' => e = .returned (.agg #[.int .i64 t, .int .i64 (s : Int), .int .i64 2]) ∧ Below w.heap.size w w')) :
    Calls Try.prog 10 #[.int .i64 op, .slice A len c] w (Num2 w 0 false) := by
  have hne : ((len : Int) != (s : Int)) = true := by simp; omega
  clear hl
  go_enter Try.func10, Try.ntmps10
  go_wp2_with fail
  refine HF.out.mono ?_
  rintro e w1 ⟨rfl, hb1⟩
  go_wp2
  go_ret2
  exact ⟨rfl, bel_kind hb1 _⟩
variable (n : Nat)
set_option maxHeartbeats 1000000 in
theorem oload_plain (HF : Hid (Calls Try.prog 15 #[.int .i64 op] w fun e w' => e = .returned (.agg #[.int .i64 t, .int .i64 (len : Int), .int .i64 1]) ∧ Below w.heap.size w w'))
    (HJ : Hid (∀ V, Below w.heap.size w V → Calls Try.prog 16 #[.slice A len c] V fun e w' => e = .returned (.int .u64 (n : Int)) ∧ V = w')) :
    Calls Try.prog 10 #[.int .i64 op, .slice A len c] w (Num2 w n true) := by
  have hne : ((len : Int) != (len : Int)) = false := by simp
  go_enter Try.func10, Try.ntmps10
  go_wp2_with fail
  refine HF.out.mono ?_
  rintro e w1 ⟨rfl, hb1⟩
  have hb2 := bel_kind hb1 (.cells #[.int .i64 t, .int .i64 (len : Int), .int .i64 1] 43)
  go_wp2_with fail
  refine (HJ.out _ hb2).mono ?_
  rintro e w2 ⟨rfl, rfl⟩
  go_wp2
  go_ret2
  exact ⟨rfl, hb2⟩
set_option maxHeartbeats 1000000 in
theorem oload_signed (N : Nat) (HF : Hid (Calls Try.prog 15 #[.int .i64 op] w fun e w' => e = .returned (.agg #[.int .i64 t, .int .i64 (len : Int), .int .i64 2]) ∧ Below w.heap.size w w'))
    (HJ : Hid (∀ V, Below w.heap.size w V → Calls Try.prog 16 #[.slice A len c] V fun e w' => e = .returned (.int .u64 (n : Int)) ∧ V = w'))
    (HE : Hid (∀ V, Calls Try.prog 17 #[.int .u64 (n : Int), .agg #[.int .i64 t, .int .i64 (len : Int), .int .i64 2]] V fun e w' => e = .returned (.int .u64 (N : Int)) ∧ Below V.heap.size V w')) :
    Calls Try.prog 10 #[.int .i64 op, .slice A len c] w (Num2 w N true) := by
  have hne : ((len : Int) != (len : Int)) = false := by simp
  go_enter Try.func10, Try.ntmps10
  go_wp2_with fail
  refine HF.out.mono ?_
  rintro e w1 ⟨rfl, hb1⟩
  have hb2 := bel_kind hb1 (.cells #[.int .i64 t, .int .i64 (len : Int), .int .i64 2] 43)
  go_wp2_with fail
  refine (HJ.out _ hb2).mono ?_
  rintro e w2 ⟨rfl, rfl⟩
  go_wp2_with fail
  refine (HE.out _).mono ?_
  rintro e w3 ⟨rfl, hb3⟩
  go_wp2
  go_ret2
  exact ⟨rfl, hb2.trans (hb3.mono hb2.size)⟩
set_option maxHeartbeats 1000000 in
theorem ostore_none (HF : Hid (Calls Try.prog 15 #[.int .i64 op] w fun e w' => e = .returned (.agg #[.int .i64 t, .int .i64 (s : Int), .int .i64 (len : Int)]) ∧ Below w.heap.size w w')) (hk : ((len : Int) != 3) = true) :
    Calls Try.prog 12 #[.int .i64 op, .int .u64 (n : Int)] w (Gives2 w [] false) := by
  go_enter Try.func12, Try.ntmps12
  go_wp2_with fail
  refine HF.out.mono ?_
  rintro e w1 ⟨rfl, hb1⟩
  go_wp2
  go_ret2
  exact ⟨_, rfl, Own.nil _ _, bel_kind hb1 _⟩
set_option maxHeartbeats 1000000 in
theorem ostore_run (l : List Nat) (HF : Hid (Calls Try.prog 15 #[.int .i64 op] w fun e w' => e = .returned (.agg #[.int .i64 t, .int .i64 (s : Int), .int .i64 3]) ∧ Below w.heap.size w w'))
    (HS : Hid (∀ V, Calls Try.prog 18 #[.int .u64 (n : Int), .int .i64 (s : Int)] V (Gives V l))) :
    Calls Try.prog 12 #[.int .i64 op, .int .u64 (n : Int)] w (Gives2 w l true) := by
  go_enter Try.func12, Try.ntmps12
  go_wp2_with fail
  refine HF.out.mono ?_
  rintro e w1 ⟨rfl, hb1⟩
  have hb2 := bel_kind hb1 (.cells #[.int .i64 t, .int .i64 (s : Int), .int .i64 3] 43)
  go_wp2_with fail
  refine (HS.out _).mono ?_
  rintro e w3 ⟨v, rfl, hown, hb3⟩
  go_wp2
  go_ret2
  exact ⟨v, rfl, own_low hown hb2.size, hb2.trans (hb3.mono hb2.size)⟩
end
set_option maxHeartbeats 1000000 in
theorem oacc_any (op t : Int) (s k : Nat) (b1 b2 : Bool) (w : World) (h1 : ((k : Int) == 3) = b1) (h2 : ((k : Int) != 0) = b2) (HF : Hid (Calls Try.prog 15 #[.int .i64 op] w fun e w' => e = .returned (.agg #[.int .i64 t, .int .i64 (s : Int), .int .i64 (k : Int)]) ∧ Below w.heap.size w w')) :
    Calls Try.prog 9 #[.int .i64 op] w (Acc4 w (t, s, b1, b2)) := by
  go_enter Try.func9, Try.ntmps9
  go_wp2_with fail
  refine HF.out.mono ?_
  rintro e w1 ⟨rfl, hb1⟩
  go_wp2
  go_quiet (fail)
  go_wp2
  exact bodyPost_ret (v := .tuple #[.int .i64 t, .int .i64 (s : Int), .bool b1, .bool b2]) (by simp [results, Try.results9, go_sem]) rfl ⟨rfl, below_drewN (bel_kind hb1 _) _⟩
theorem kind_loads : ∀ k ∈ kinds, k.store = false → k.signed = true → (k.bits = 32 ∧ (k.bytes = 1 ∨ k.bytes = 2)) ∨ (k.bits = 64 ∧ (k.bytes = 1 ∨ k.bytes = 2 ∨ k.bytes = 4)) := by decide
theorem ext_any (bits s n : Nat) (V : World) (h : (bits = 32 ∧ (s = 1 ∨ s = 2)) ∨ (bits = 64 ∧ (s = 1 ∨ s = 2 ∨ s = 4))) (hn : n < 256 ^ s) :
    Calls Try.prog 17 #[.int .u64 (n : Int), .agg #[.int .i64 (if bits = 32 then 127 else 126), .int .i64 (s : Int), .int .i64 2]] V fun e w' => e = .returned (.int .u64 ((extV s (bits / 8) n : Nat) : Int)) ∧ Below V.heap.size V w' := by
  rcases h with ⟨rfl, rfl | rfl⟩ | ⟨rfl, rfl | rfl | rfl⟩
  · exact ext_4_1 n 2 V hn
  · exact ext_4_2 n 2 V hn
  · exact ext_8_1 n 2 V hn
  · exact ext_8_2 n 2 V hn
  · exact ext_8_4 n 2 V hn
theorem oload_any (op : Int) (A : Option Addr) (l : List Nat) (c : Nat) (w : World) (hb : Bytes w w.heap.size A l) :
    Calls Try.prog 10 #[.int .i64 op, .slice A l.length c] w (Num2 w (ldVal op l).1 (ldVal op l).2) := by
  have HF := find_any op w
  unfold FindIs findVal at HF
  unfold ldVal
  cases hk : kindOf op with
  | none =>
    rw [hk] at HF
    exact oload_none op 0 0 A l.length c w (Lib.hid HF)
  | some k =>
    rw [hk] at HF
    obtain ⟨h1, h2, h3⟩ := kindOf_right hk
    have h4 := kind_loads k (List.mem_of_find?_eq_some hk)
    obtain ⟨o, bits, bytes, s, st⟩ := k
    simp only at h1 h2 h3 h4 HF ⊢
    cases st with
    | true =>
      rw [if_pos (Or.inl rfl)]
      exact oload_store op _ bytes A l.length c w (Lib.hid HF)
    | false =>
      by_cases hl : bytes = l.length
      · rw [if_neg (by simp [hl])]
        subst hl
        have HJ : Hid (∀ V, Below w.heap.size w V → Calls Try.prog 16 #[.slice A l.length c] V fun e w' => e = .returned (.int .u64 ((le l : Nat) : Int)) ∧ V = w') :=
          Lib.hid fun V hV => join_any A l c _ V (hb.below hV) h2
        cases s with
        | false =>
          rw [full_plain]
          exact oload_plain op _ A l.length c w (le l) (Lib.hid HF) HJ
        | true =>
          have hN : l.length ≤ bits / 8 := by omega
          rw [full_signed _ l h1 hN hb.1]
          exact oload_signed op _ A l.length c w (le l) _ (Lib.hid HF) HJ (Lib.hid fun V => ext_any bits l.length (le l) V (h4 rfl rfl) (le_lt l hb.1))
      · rw [if_pos (Or.inr hl)]
        cases s with
        | false => exact oload_len1 op _ bytes A l.length c w hl (Lib.hid HF)
        | true => exact oload_len2 op _ bytes A l.length c w hl (Lib.hid HF)
theorem ostore_any (op : Int) (n : Nat) (w : World) (hn : n < 18446744073709551616) :
    Calls Try.prog 12 #[.int .i64 op, .int .u64 (n : Int)] w (Gives2 w (stVal op n).1 (stVal op n).2) := by
  have HF := find_any op w
  unfold FindIs findVal at HF
  unfold stVal
  cases hk : kindOf op with
  | none =>
    rw [hk] at HF
    exact ostore_none op 0 0 0 w n (Lib.hid HF) rfl
  | some k =>
    rw [hk] at HF
    obtain ⟨h1, h2, h3⟩ := kindOf_right hk
    obtain ⟨o, bits, bytes, s, st⟩ := k
    simp only at h1 h2 h3 HF ⊢
    cases st with
    | true =>
      rw [if_pos rfl]
      exact ostore_run op _ bytes w n _ (Lib.hid HF) (Lib.hid fun V => split_any n bytes V h2 hn)
    | false =>
      rw [if_neg (by simp)]
      cases s with
      | false => exact ostore_none op _ bytes 1 w n (Lib.hid HF) rfl
      | true => exact ostore_none op _ bytes 2 w n (Lib.hid HF) rfl
theorem oaccess_any (op : Int) (w : World) : Calls Try.prog 9 #[.int .i64 op] w (Acc4 w (accVal op)) := by
  have HF := find_any op w
  unfold FindIs findVal at HF
  unfold accVal
  cases hk : kindOf op with
  | none =>
    rw [hk] at HF
    exact oacc_any op 0 0 0 false false w rfl rfl (Lib.hid HF)
  | some k =>
    rw [hk] at HF
    obtain ⟨o, bits, bytes, s, st⟩ := k
    simp only at HF ⊢
    cases st with
    | true => exact oacc_any op _ bytes 3 true true w rfl rfl (Lib.hid HF)
    | false =>
      cases s with
      | false => exact oacc_any op _ bytes 1 false true w rfl rfl (Lib.hid HF)
      | true => exact oacc_any op _ bytes 2 false true w rfl rfl (Lib.hid HF)
theorem does : Does (fun _ => True) where
  keep := fun _ _ _ _ => trivial
  acc := fun op w _ _ => oaccess_any op w
  load := fun op A l c w _ hb _ _ _ _ => oload_any op A l c w hb
  store := fun op n _ w _ hn hk _ => gives_s (ostore_any op n w hn) (stVal_byte op n) hk
end Go.Proofs.Ytaagingcjmkcdaa.Pack
