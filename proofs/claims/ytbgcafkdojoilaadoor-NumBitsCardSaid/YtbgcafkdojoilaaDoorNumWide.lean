/-
  Plain laws of what the operations answer: those on 32 bits look at these alone, and answer no others; beside a trap stands 0. No condition but those that each lemma names; nothing of the program.
-/
import Derived.Test.YtbgcafkdojoilaaDoorNumTypes
import Derived.Test.YtbgcafkdojoilaaDoorNumClosed
namespace Go.Proofs.YtbgcafkdojoilaaDoor.Num

/-- The codes of the operations of one number. -/
theorem un_ops (op : Int) (a : Nat) (h : (unVal op a).2 = true) : op = 69 ∨ op = 80 ∨ op = 103 ∨ op = 121 ∨ op = 104 ∨ op = 122 ∨ op = 105 ∨ op = 123 ∨ op = 167 ∨ op = 173 ∨ op = 172 ∨ op = 196 ∨ op = 192 ∨ op = 193 ∨ op = 194 ∨ op = 195 := by
  rcases Decidable.em (op = 69 ∨ op = 80 ∨ op = 103 ∨ op = 121 ∨ op = 104 ∨ op = 122 ∨ op = 105 ∨ op = 123 ∨ op = 167 ∨ op = 173 ∨ op = 172 ∨ op = 196 ∨ op = 192 ∨ op = 193 ∨ op = 194 ∨ op = 195) with hc | hc
  · exact hc
  · have hv : unVal op a = (0, false) := by
      unfold unVal
      rw [if_neg (by omega), if_neg (by omega), if_neg (by omega), if_neg (by omega), if_neg (by omega), if_neg (by omega), if_neg (by omega), if_neg (by omega), if_neg (by omega), if_neg (by omega), if_neg (by omega), if_neg (by omega), if_neg (by omega), if_neg (by omega)]
    rw [hv] at h
    cases h
theorem mod_of_32 (a x k : Nat) (hk : k ≤ 32) (h : x % 2 ^ 32 = a % 2 ^ 32) : x % 2 ^ k = a % 2 ^ k := by
  have e : ∀ n : Nat, n % 2 ^ 32 % 2 ^ k = n % 2 ^ k := fun n => Nat.mod_mod_of_dvd n (Nat.pow_dvd_pow 2 hk)
  rw [← e x, ← e a, h]
theorem bit_of_32 (a x i : Nat) (hi : i < 32) (h : x % 2 ^ 32 = a % 2 ^ 32) : bitN x i = bitN a i := by
  have e : ∀ n : Nat, bitN n i = 1 ↔ (n % 2 ^ 32).testBit i = true := fun n => by rw [Nat.testBit_mod_two_pow, bit_iff]; simp [hi]
  have h1 := e x
  have h2 := e a
  rw [h] at h1
  have h3 := bitN_le x i
  have h4 := bitN_le a i
  have h5 : bitN x i = 1 ↔ bitN a i = 1 := h1.trans h2.symm
  omega
theorem spread_of_32 (a x k w : Nat) (h0 : 1 ≤ k) (hk : k ≤ 32) (h : x % 2 ^ 32 = a % 2 ^ 32) : spreadN x k w = spreadN a k w := by
  unfold spreadN
  apply asm_congr
  intro i _
  exact bit_of_32 a x _ (by split <;> omega) h
theorem un_width (op : Int) (a x : Nat) (h : (unVal op 0).2 = true) (hin : inVal op = 127) (hx : x % 2 ^ 32 = a % 2 ^ 32) : unVal op x = unVal op a := by
  have hc : cutN x 32 = cutN a 32 := hx
  rcases un_ops op 0 h with rfl | rfl | rfl | rfl | rfl | rfl | rfl | rfl | rfl | rfl | rfl | rfl | rfl | rfl | rfl | rfl
  all_goals first
    | (exact absurd hin (by decide))
    | (unfold unVal; simp [hc]; done)
    | (unfold unVal; simp [spread_of_32 a x 32 64 (by omega) (by omega) hx, spread_of_32 a x 8 32 (by omega) (by omega) hx, spread_of_32 a x 16 32 (by omega) (by omega) hx]; done)
theorem lzF_le (a w : Nat) : lzF a w ≤ w := by
  induction w with
  | zero => simp [lzF]
  | succ w ih => simp only [lzF]; split <;> omega
theorem tzF_le (a i d : Nat) : tzF a i d ≤ d := by
  induction d generalizing i with
  | zero => simp [tzF]
  | succ d ih => simp only [tzF]; have := ih (i + 1); split <;> omega
theorem bool_le (b : Bool) : b.toNat ≤ 1 := by cases b <;> simp
theorem un_out (op : Int) (a : Nat) (h : (unVal op 0).2 = true) (hout : (typVal op).2.1 = 127) : (unVal op a).1 < 4294967296 := by
  have hc : cutN a 32 < 4294967296 := cut_lt a 32
  have hs : ∀ k, spreadN a k 32 < 4294967296 := fun k => asm_lt _ 32 (fun i => bitN_le _ _)
  have h1 := lzF_le (cutN a 32) 32
  have h2 := tzF_le (cutN a 32) 0 32
  have h3 := pcF_le (cutN a 32) 32
  rcases un_ops op 0 h with rfl | rfl | rfl | rfl | rfl | rfl | rfl | rfl | rfl | rfl | rfl | rfl | rfl | rfl | rfl | rfl
  · show (((cutN a 32 : Nat) : Int) == 0).toNat < 4294967296
    exact Nat.lt_of_le_of_lt (bool_le _) (by decide)
  · show (((cutN a 64 : Nat) : Int) == 0).toNat < 4294967296
    exact Nat.lt_of_le_of_lt (bool_le _) (by decide)
  · show lzF (cutN a 32) 32 < 4294967296
    omega
  · exact absurd hout (by decide +kernel)
  · show tzF (cutN a 32) 0 32 < 4294967296
    omega
  · exact absurd hout (by decide +kernel)
  · show pcF (cutN a 32) 32 < 4294967296
    omega
  · exact absurd hout (by decide +kernel)
  · show cutN a 32 < 4294967296
    exact hc
  · exact absurd hout (by decide +kernel)
  · exact absurd hout (by decide +kernel)
  · exact absurd hout (by decide +kernel)
  · show spreadN a 8 32 < 4294967296
    exact hs 8
  · show spreadN a 16 32 < 4294967296
    exact hs 16
  · exact absurd hout (by decide +kernel)
  · exact absurd hout (by decide +kernel)
theorem each_le (a b how : Nat) (ha : a < 4294967296) (hb : b < 4294967296) : eachN a b how < 4294967296 := by
  by_cases h0 : how = 0
  · subst h0; rw [each_and a b (by omega)]; exact Nat.lt_of_le_of_lt Nat.and_le_left ha
  by_cases h1 : how = 1
  · subst h1; rw [each_or a b (by omega) (by omega)]; exact Nat.or_lt_two_pow (n := 32) ha hb
  by_cases h2 : how = 2
  · subst h2; rw [each_xor a b (by omega) (by omega)]; exact Nat.xor_lt_two_pow (n := 32) ha hb
  · have : eachN a b how = 0 := by
      unfold eachN
      have e : eachF a b how = fun _ => 0 := by funext i; unfold eachF; rw [if_neg (by omega)]
      rw [e]
      have : ∀ n, asm (fun _ => 0) n = 0 := fun n => by induction n with
        | zero => rfl
        | succ n ih => rw [asm, ih, Nat.zero_mul]
      exact this 64
    omega
theorem abs_lt_32 (a : Nat) (ha : a < 4294967296) : absN a 32 ≤ 2147483648 := by
  have ht : (2 : Nat) ^ (32 - 1) = 2147483648 := by decide
  unfold absN
  rw [ht]
  by_cases h : 2147483648 ≤ a
  · rw [if_pos h, minus_32 a ha (by omega)]; omega
  · rw [if_neg h]; omega
theorem minus_lt_32 (a : Nat) : minusN a 32 < 4294967296 := cut_lt _ 32
theorem quot_lt_32 (a b : Nat) (s : Bool) (ha : a < 4294967296) : (quotN a b 32 s).1 < 4294967296 ∧ (quotN a b 32 s).2.1 < 4294967296 := by
  have h1 := abs_lt_32 a ha
  have h2 : absN a 32 / absN b 32 ≤ absN a 32 := Nat.div_le_self _ _
  have h3 : absN a 32 % absN b 32 ≤ absN a 32 := Nat.mod_le _ _
  have h4 : a / b ≤ a := Nat.div_le_self _ _
  have h5 : a % b ≤ a := Nat.mod_le _ _
  have h6 := minus_lt_32 (absN a 32 / absN b 32)
  have h7 := minus_lt_32 (absN a 32 % absN b 32)
  unfold quotN
  generalize absN a 32 / absN b 32 = Q at *
  generalize absN a 32 % absN b 32 = R at *
  repeat' split
  all_goals simp only
  all_goals omega
theorem quot_trap (a b w : Nat) (s : Bool) : ((quotN a b w s).2.2.1 = 0 ∨ (quotN a b w s).1 = 0) ∧ ((quotN a b w s).2.2.2 = 0 ∨ (quotN a b w s).2.1 = 0) := by
  unfold quotN
  repeat' split
  all_goals simp
theorem binVal_lt (k a b : Nat) (ha : a < 4294967296) (hb : b < 4294967296) : (binVal k 32 a b).1 < 4294967296 := by
  have hq := quot_lt_32 a b true ha
  have hr := quot_lt_32 a b false ha
  have hbl : ∀ c : Bool, c.toNat < 4294967296 := fun c => Nat.lt_of_le_of_lt (bool_le c) (by decide)
  have hup : upN a (b % 32) 32 < 4294967296 := asm_lt _ 32 (fun i => by have := bitN_le a (i - b % 32); show (if i < b % 32 then 0 else bitN a (i - b % 32)) ≤ 1; split <;> omega)
  have hdn : ∀ f, f ≤ 1 → downN a (b % 32) 32 f < 4294967296 := fun f hf => asm_lt _ 32 (fun i => by have := bitN_le a (i + b % 32); show (if i + b % 32 < 32 then bitN a (i + b % 32) else f) ≤ 1; split <;> omega)
  have htn : ∀ s, turnN a s 32 < 4294967296 := fun s => asm_lt _ 32 (fun i => bitN_le _ _)
  unfold binVal
  split
  · exact hbl _
  · exact hbl _
  · exact hbl _
  · exact hbl _
  · exact hbl _
  · exact hbl _
  · exact hbl _
  · exact hbl _
  · exact hbl _
  · exact hbl _
  · exact cut_lt _ 32
  · exact cut_lt _ 32
  · exact cut_lt _ 32
  · exact hq.1
  · exact hr.1
  · exact hq.2
  · exact hr.2
  · exact each_le a b _ ha hb
  · exact each_le a b _ ha hb
  · exact each_le a b _ ha hb
  · exact hup
  · exact hdn _ (bitN_le _ _)
  · exact hdn _ (by omega)
  · exact htn _
  · exact htn _
theorem binVal_trap (k w a b : Nat) : (binVal k w a b).2 = 0 ∨ (binVal k w a b).1 = 0 := by
  have hq := quot_trap a b w true
  have hr := quot_trap a b w false
  unfold binVal
  split
  all_goals first
    | exact hq.1
    | exact hr.1
    | exact hq.2
    | exact hr.2
    | exact .inl rfl
theorem binVal_truth (k w a b : Nat) (hk : k < 10) : (binVal k w a b).1 ≤ 1 := by
  have h : k = 0 ∨ k = 1 ∨ k = 2 ∨ k = 3 ∨ k = 4 ∨ k = 5 ∨ k = 6 ∨ k = 7 ∨ k = 8 ∨ k = 9 := by omega
  rcases h with rfl | rfl | rfl | rfl | rfl | rfl | rfl | rfl | rfl | rfl
  all_goals exact bool_le _
theorem bin_trap (op : Int) (a b : Nat) : (binAll op a b).2.1 = 0 ∨ (binAll op a b).1 = 0 := by
  unfold binAll
  repeat' split
  all_goals first
    | exact binVal_trap _ _ _ _
    | exact .inl rfl
theorem bin_ops (op : Int) (a b : Nat) (h : (binAll op a b).2.2 = true) : 70 ≤ op ∧ op ≤ 79 ∨ 81 ≤ op ∧ op ≤ 90 ∨ 106 ≤ op ∧ op ≤ 120 ∨ 124 ≤ op ∧ op ≤ 138 := by
  unfold binAll at h
  repeat' split at h
  all_goals first
    | omega
    | cases h
theorem bin_width (op : Int) (a b x y : Nat) (h : (binAll op 0 1).2.2 = true) (hin : inVal op = 127) (hx : x % 2 ^ 32 = a % 2 ^ 32) (hy : y % 2 ^ 32 = b % 2 ^ 32) : binAll op x y = binAll op a b := by
  have hcx : cutN x 32 = cutN a 32 := hx
  have hcy : cutN y 32 = cutN b 32 := hy
  have ho := bin_ops op 0 1 h
  have hn : ¬ (80 ≤ op ∧ op ≤ 90 ∨ 121 ≤ op ∧ op ≤ 138 ∨ op = 167 ∨ 194 ≤ op ∧ op ≤ 196) := by
    intro hc
    unfold inVal at hin
    rw [if_pos hc] at hin
    cases hin
  by_cases c0 : 70 ≤ op ∧ op ≤ 79
  · have e : ∀ p q, binAll op p q = ((binVal (op - 70).toNat 32 (cutN p 32) (cutN q 32)).1, (binVal (op - 70).toNat 32 (cutN p 32) (cutN q 32)).2, true) := fun p q => by unfold binAll; rw [if_pos c0]
    rw [e, e, hcx, hcy]
  · have c1 : 106 ≤ op ∧ op ≤ 120 := by omega
    have c2 : ¬ (81 ≤ op ∧ op ≤ 90) := by omega
    have e : ∀ p q, binAll op p q = ((binVal ((op - 106).toNat + 10) 32 (cutN p 32) (cutN q 32)).1, (binVal ((op - 106).toNat + 10) 32 (cutN p 32) (cutN q 32)).2, true) := fun p q => by unfold binAll; rw [if_neg c0, if_neg c2, if_pos c1]
    rw [e, e, hcx, hcy]
theorem bin_out (op : Int) (a b : Nat) (h : (binAll op 0 1).2.2 = true) (h4 : ¬ 124 ≤ op) : (binAll op a b).1 < 4294967296 := by
  have ho := bin_ops op 0 1 h
  have ha : cutN a 32 < 4294967296 := cut_lt a 32
  have hb : cutN b 32 < 4294967296 := cut_lt b 32
  unfold binAll
  by_cases c0 : 70 ≤ op ∧ op ≤ 79
  · rw [if_pos c0]; exact binVal_lt _ _ _ ha hb
  rw [if_neg c0]
  by_cases c1 : 81 ≤ op ∧ op ≤ 90
  · rw [if_pos c1]; exact Nat.lt_of_le_of_lt (binVal_truth _ _ _ _ (by omega)) (by decide)
  rw [if_neg c1]
  by_cases c2 : 106 ≤ op ∧ op ≤ 120
  · rw [if_pos c2]; exact binVal_lt _ _ _ ha hb
  exfalso; omega
end Go.Proofs.YtbgcafkdojoilaaDoor.Num
