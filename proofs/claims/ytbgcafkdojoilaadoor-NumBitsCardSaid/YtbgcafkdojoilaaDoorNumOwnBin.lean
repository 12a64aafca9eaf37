/-
  num's own Bin, for every code: what the reference answers. Condition: the numbers are of 64 bits.
-/
import Derived.Test.YtbgcafkdojoilaaDoorNumOwnComb
import Derived.Test.YtbgcafkdojoilaaDoorNumCompare
import Derived.Test.YtbgcafkdojoilaaDoorNumBinAll
namespace Go.Proofs.YtbgcafkdojoilaaDoor.Num
open Go.RowKit

/-- What an operation of two numbers answers, by its code for 32 bits. -/
def codeVal (c : Int) (w a b : Nat) : Nat × Nat × Bool :=
  if 70 ≤ c ∧ c ≤ 79 then ((binVal (c - 70).toNat w a b).1, (binVal (c - 70).toNat w a b).2, true)
  else if 106 ≤ c ∧ c ≤ 120 then ((binVal ((c - 106).toNat + 10) w a b).1, (binVal ((c - 106).toNat + 10) w a b).2, true)
  else (0, 0, false)
theorem fold_plain (op : Int) (h : ¬ (80 ≤ op ∧ op ≤ 90)) (h2 : ¬ (121 ≤ op ∧ op ≤ 138)) : foldC op = op ∧ foldW op = 32 := by
  unfold foldC foldW; rw [if_neg h, if_neg h2, if_neg h, if_neg h2]; exact ⟨rfl, rfl⟩
theorem fold_11 (op : Int) (h : 80 ≤ op ∧ op ≤ 90) : foldC op = op - 11 ∧ foldW op = 64 := by
  unfold foldC foldW; rw [if_pos h, if_pos h]; exact ⟨rfl, rfl⟩
theorem fold_18 (op : Int) (h : 121 ≤ op ∧ op ≤ 138) : foldC op = op - 18 ∧ foldW op = 64 := by
  unfold foldC foldW; rw [if_neg (by omega), if_pos h, if_neg (by omega), if_pos h]; exact ⟨rfl, rfl⟩
theorem binAll_code (op : Int) (a b : Nat) : binAll op a b = codeVal (foldC op) (foldW op) (cutN a (foldW op)) (cutN b (foldW op)) := by
  unfold binAll codeVal
  by_cases h5 : 80 ≤ op ∧ op ≤ 90
  · obtain ⟨e1, e2⟩ := fold_11 op h5
    rw [e1, e2, if_neg (by omega)]
    by_cases h2 : 81 ≤ op ∧ op ≤ 90
    · rw [if_pos h2, if_pos (by omega), show op - 11 - 70 = op - 81 from by omega]
    · rw [if_neg h2, if_neg (by omega), if_neg (by omega), if_neg (by omega), if_neg (by omega)]
  by_cases h6 : 121 ≤ op ∧ op ≤ 138
  · obtain ⟨e1, e2⟩ := fold_18 op h6
    rw [e1, e2, if_neg (by omega), if_neg (by omega), if_neg (by omega)]
    by_cases h4 : 124 ≤ op ∧ op ≤ 138
    · rw [if_pos h4, if_neg (by omega), if_pos (by omega), show op - 18 - 106 = op - 124 from by omega]
    · rw [if_neg h4, if_neg (by omega), if_neg (by omega)]
  · obtain ⟨e1, e2⟩ := fold_plain op h5 h6
    rw [e1, e2]
    by_cases h1 : 70 ≤ op ∧ op ≤ 79
    · rw [if_pos h1, if_pos h1]
    rw [if_neg h1, if_neg (by omega), if_neg h1]
    by_cases h3 : 106 ≤ op ∧ op ≤ 120
    · rw [if_pos h3, if_pos h3]
    · rw [if_neg h3, if_neg (by omega), if_neg h3]
/-- The code's number among combine's. -/
theorem comb_k (c : Int) (h : 106 ≤ c ∧ c ≤ 120) (h3 : ¬ (109 ≤ c ∧ c ≤ 112)) (k : Nat) (hk : k = (c - 106).toNat + 10) :
    ((k = 10 ∧ c = 106) ∨ (k = 11 ∧ c = 107) ∨ (k = 12 ∧ c = 108) ∨ (k = 17 ∧ c = 113) ∨ (k = 18 ∧ c = 114) ∨ (k = 19 ∧ c = 115) ∨ (k = 20 ∧ c = 116) ∨ (k = 21 ∧ c = 117) ∨ (k = 22 ∧ c = 118) ∨ (k = 23 ∧ c = 119) ∨ (k = 24 ∧ c = 120)) ∧
    (k = 10 ∨ k = 11 ∨ k = 12 ∨ k = 17 ∨ k = 18 ∨ k = 19 ∨ k = 20 ∨ k = 21 ∨ k = 22 ∨ k = 23 ∨ k = 24) := by
  have hc : c = 106 ∨ c = 107 ∨ c = 108 ∨ c = 113 ∨ c = 114 ∨ c = 115 ∨ c = 116 ∨ c = 117 ∨ c = 118 ∨ c = 119 ∨ c = 120 := by omega
  rcases hc with rfl | rfl | rfl | rfl | rfl | rfl | rfl | rfl | rfl | rfl | rfl <;> (subst hk; decide)
section
variable (op : Int) (a b A B : Nat) (c W : Int) (wo : World)
    (HF : Hid (∀ V, Calls Tryd.prog 17 #[.int .i64 op] V fun e w' => e = .returned (.tuple #[.int .i64 c, .int .u64 W]) ∧ V = w'))
    (HA : Hid (∀ V, Calls Tryd.prog 18 #[.int .u64 (a : Int), .int .u64 W] V fun e w' => e = .returned (.int .u64 (A : Int)) ∧ V = w'))
    (HB : Hid (∀ V, Calls Tryd.prog 18 #[.int .u64 (b : Int), .int .u64 W] V fun e w' => e = .returned (.int .u64 (B : Int)) ∧ V = w'))
include HF HA HB
set_option maxRecDepth 100000 in
theorem obin_cmp (h : Bool) (HP : Hid (∀ V, Calls Tryd.prog 27 #[.int .i64 c, .int .u64 (A : Int), .int .u64 (B : Int), .int .u64 W] V (Cmp2 V h true))) :
    Calls Tryd.prog 12 #[.int .i64 op, .int .u64 (a : Int), .int .u64 (b : Int)] wo (Is3 wo h.toNat 0 true) := by
  go_enter Tryd.func12, Tryd.ntmps12
  go_wp2_with fail
  refine (HF.out _).mono ?_
  rintro e w' ⟨rfl, rfl⟩
  go_wp2_with fail
  refine (HA.out _).mono ?_
  rintro e w' ⟨rfl, rfl⟩
  go_wp2_with fail
  refine (HB.out _).mono ?_
  rintro e w' ⟨rfl, rfl⟩
  go_wp2_with fail
  refine (HP.out _).mono ?_
  rintro e w' ⟨rfl, rfl⟩
  go_wp2_with fail
  refine (truth_any _ _).mono ?_
  rintro e w' ⟨rfl, rfl⟩
  go_wp2
  go_ret3
  exact ⟨rfl, rfl⟩
set_option maxRecDepth 100000 in
theorem obin_div (v t : Nat) (g109 : 109 ≤ c) (l112 : c ≤ 112) (HP : Hid (∀ V, Calls Tryd.prog 27 #[.int .i64 c, .int .u64 (A : Int), .int .u64 (B : Int), .int .u64 W] V (Cmp2 V false false)))
    (HD : Hid (∀ V, Calls Tryd.prog 28 #[.int .i64 c, .int .u64 (A : Int), .int .u64 (B : Int), .int .u64 W] V (Div2 V v t))) :
    Calls Tryd.prog 12 #[.int .i64 op, .int .u64 (a : Int), .int .u64 (b : Int)] wo (Is3 wo v t true) := by
  go_enter Tryd.func12, Tryd.ntmps12
  go_wp2_with fail
  refine (HF.out _).mono ?_
  rintro e w' ⟨rfl, rfl⟩
  go_wp2_with fail
  refine (HA.out _).mono ?_
  rintro e w' ⟨rfl, rfl⟩
  go_wp2_with fail
  refine (HB.out _).mono ?_
  rintro e w' ⟨rfl, rfl⟩
  go_wp2_with fail
  refine (HP.out _).mono ?_
  rintro e w' ⟨rfl, rfl⟩
  go_wp2_with fail
  refine (HD.out _).mono ?_
  rintro e w' ⟨rfl, rfl⟩
  go_wp2
  go_ret3
  exact ⟨rfl, rfl⟩
set_option maxRecDepth 100000 in
theorem obin_lo_true (v : Nat) (g109 : ¬ 109 ≤ c) (HP : Hid (∀ V, Calls Tryd.prog 27 #[.int .i64 c, .int .u64 (A : Int), .int .u64 (B : Int), .int .u64 W] V (Cmp2 V false false)))
    (HM : Hid (∀ V, Calls Tryd.prog 29 #[.int .i64 c, .int .u64 (A : Int), .int .u64 (B : Int), .int .u64 W] V (Is2 V v true))) :
    Calls Tryd.prog 12 #[.int .i64 op, .int .u64 (a : Int), .int .u64 (b : Int)] wo (Is3 wo v 0 true) := by
  go_enter Tryd.func12, Tryd.ntmps12
  go_wp2_with fail
  refine (HF.out _).mono ?_
  rintro e w' ⟨rfl, rfl⟩
  go_wp2_with fail
  refine (HA.out _).mono ?_
  rintro e w' ⟨rfl, rfl⟩
  go_wp2_with fail
  refine (HB.out _).mono ?_
  rintro e w' ⟨rfl, rfl⟩
  go_wp2_with fail
  refine (HP.out _).mono ?_
  rintro e w' ⟨rfl, rfl⟩
  go_wp2_with fail
  refine (HM.out _).mono ?_
  rintro e w' ⟨rfl, rfl⟩
  go_wp2
  go_ret3
  exact ⟨rfl, rfl⟩
set_option maxRecDepth 100000 in
theorem obin_lo_false (g109 : ¬ 109 ≤ c) (HP : Hid (∀ V, Calls Tryd.prog 27 #[.int .i64 c, .int .u64 (A : Int), .int .u64 (B : Int), .int .u64 W] V (Cmp2 V false false)))
    (HM : Hid (∀ V, Calls Tryd.prog 29 #[.int .i64 c, .int .u64 (A : Int), .int .u64 (B : Int), .int .u64 W] V (Is2 V 0 false))) :
    Calls Tryd.prog 12 #[.int .i64 op, .int .u64 (a : Int), .int .u64 (b : Int)] wo (Is3 wo 0 0 false) := by
  go_enter Tryd.func12, Tryd.ntmps12
  go_wp2_with fail
  refine (HF.out _).mono ?_
  rintro e w' ⟨rfl, rfl⟩
  go_wp2_with fail
  refine (HA.out _).mono ?_
  rintro e w' ⟨rfl, rfl⟩
  go_wp2_with fail
  refine (HB.out _).mono ?_
  rintro e w' ⟨rfl, rfl⟩
  go_wp2_with fail
  refine (HP.out _).mono ?_
  rintro e w' ⟨rfl, rfl⟩
  go_wp2_with fail
  refine (HM.out _).mono ?_
  rintro e w' ⟨rfl, rfl⟩
  go_wp2
  go_ret3
  exact ⟨rfl, rfl⟩
set_option maxRecDepth 100000 in
theorem obin_hi_true (v : Nat) (g109 : 109 ≤ c) (l112 : ¬ c ≤ 112) (HP : Hid (∀ V, Calls Tryd.prog 27 #[.int .i64 c, .int .u64 (A : Int), .int .u64 (B : Int), .int .u64 W] V (Cmp2 V false false)))
    (HM : Hid (∀ V, Calls Tryd.prog 29 #[.int .i64 c, .int .u64 (A : Int), .int .u64 (B : Int), .int .u64 W] V (Is2 V v true))) :
    Calls Tryd.prog 12 #[.int .i64 op, .int .u64 (a : Int), .int .u64 (b : Int)] wo (Is3 wo v 0 true) := by
  go_enter Tryd.func12, Tryd.ntmps12
  go_wp2_with fail
  refine (HF.out _).mono ?_
  rintro e w' ⟨rfl, rfl⟩
  go_wp2_with fail
  refine (HA.out _).mono ?_
  rintro e w' ⟨rfl, rfl⟩
  go_wp2_with fail
  refine (HB.out _).mono ?_
  rintro e w' ⟨rfl, rfl⟩
  go_wp2_with fail
  refine (HP.out _).mono ?_
  rintro e w' ⟨rfl, rfl⟩
  go_wp2_with fail
  refine (HM.out _).mono ?_
  rintro e w' ⟨rfl, rfl⟩
  go_wp2
  go_ret3
  exact ⟨rfl, rfl⟩
set_option maxRecDepth 100000 in
theorem obin_hi_false (g109 : 109 ≤ c) (l112 : ¬ c ≤ 112) (HP : Hid (∀ V, Calls Tryd.prog 27 #[.int .i64 c, .int .u64 (A : Int), .int .u64 (B : Int), .int .u64 W] V (Cmp2 V false false)))
    (HM : Hid (∀ V, Calls Tryd.prog 29 #[.int .i64 c, .int .u64 (A : Int), .int .u64 (B : Int), .int .u64 W] V (Is2 V 0 false))) :
    Calls Tryd.prog 12 #[.int .i64 op, .int .u64 (a : Int), .int .u64 (b : Int)] wo (Is3 wo 0 0 false) := by
  go_enter Tryd.func12, Tryd.ntmps12
  go_wp2_with fail
  refine (HF.out _).mono ?_
  rintro e w' ⟨rfl, rfl⟩
  go_wp2_with fail
  refine (HA.out _).mono ?_
  rintro e w' ⟨rfl, rfl⟩
  go_wp2_with fail
  refine (HB.out _).mono ?_
  rintro e w' ⟨rfl, rfl⟩
  go_wp2_with fail
  refine (HP.out _).mono ?_
  rintro e w' ⟨rfl, rfl⟩
  go_wp2_with fail
  refine (HM.out _).mono ?_
  rintro e w' ⟨rfl, rfl⟩
  go_wp2
  go_ret3
  exact ⟨rfl, rfl⟩
end
theorem odiv_any (k a b w : Nat) (W : Int) (hW : Wide W w) (wo : World) (ha : a < 2 ^ w) (hb : b < 2 ^ w) (hk : k < 4) :
    Calls Tryd.prog 28 #[.int .i64 (109 + k : Int), .int .u64 (a : Int), .int .u64 (b : Int), .int .u64 W] wo (Div2 wo (binVal (13 + k) w a b).1 (binVal (13 + k) w a b).2) := by
  rcases hW with ⟨rfl, rfl⟩ | ⟨rfl, rfl⟩
  · exact odiv_32 k a b wo ha hb hk
  · exact odiv_64 k a b wo ha hb hk
theorem ocomb_any (k a b w : Nat) (W c : Int) (hW : Wide W w) (wo : World) (ha : a < 2 ^ w) (hb : b < 2 ^ w) (hk : (k = 10 ∧ c = 106) ∨ (k = 11 ∧ c = 107) ∨ (k = 12 ∧ c = 108) ∨ (k = 17 ∧ c = 113) ∨ (k = 18 ∧ c = 114) ∨ (k = 19 ∧ c = 115) ∨ (k = 20 ∧ c = 116) ∨ (k = 21 ∧ c = 117) ∨ (k = 22 ∧ c = 118) ∨ (k = 23 ∧ c = 119) ∨ (k = 24 ∧ c = 120)) :
    Calls Tryd.prog 29 #[.int .i64 c, .int .u64 (a : Int), .int .u64 (b : Int), .int .u64 W] wo (Is2 wo (binVal k w a b).1 true) := by
  rcases hW with ⟨rfl, rfl⟩ | ⟨rfl, rfl⟩
  · exact ocomb_32 k a b c wo ha hb hk
  · exact ocomb_64 k a b c wo ha hb hk
theorem ocomb_none (a b w : Nat) (W c : Int) (hW : Wide W w) (wo : World) (h : c ≠ 106 ∧ c ≠ 107 ∧ c ≠ 108 ∧ (c < 113 ∨ 120 < c)) :
    Calls Tryd.prog 29 #[.int .i64 c, .int .u64 (a : Int), .int .u64 (b : Int), .int .u64 W] wo (Is2 wo 0 false) := by
  rcases hW with ⟨rfl, rfl⟩ | ⟨rfl, rfl⟩
  · exact ocomb_none_32 a b c wo h
  · exact ocomb_none_64 a b c wo h
theorem bin_cmp (k w a b : Nat) (hk : k < 10) : binVal k w a b = ((cmpV k w a b).toNat, 0) := by
  match k, hk with
  | 0, _ => rfl
  | 1, _ => rfl
  | 2, _ => rfl
  | 3, _ => rfl
  | 4, _ => rfl
  | 5, _ => rfl
  | 6, _ => rfl
  | 7, _ => rfl
  | 8, _ => rfl
  | 9, _ => rfl
theorem bin_plain (k w a b : Nat) (hk : k = 10 ∨ k = 11 ∨ k = 12 ∨ k = 17 ∨ k = 18 ∨ k = 19 ∨ k = 20 ∨ k = 21 ∨ k = 22 ∨ k = 23 ∨ k = 24) : (binVal k w a b).2 = 0 := by
  rcases hk with rfl | rfl | rfl | rfl | rfl | rfl | rfl | rfl | rfl | rfl | rfl <;> rfl
theorem obin_any (op : Int) (a b : Nat) (wo : World) (ha : a < 18446744073709551616) (hb : b < 18446744073709551616) :
    Calls Tryd.prog 12 #[.int .i64 op, .int .u64 (a : Int), .int .u64 (b : Int)] wo (Is3 wo (binAll op a b).1 (binAll op a b).2.1 (binAll op a b).2.2) := by
  have hW := foldW_wide op
  have HA := Lib.hid (fun V => ocut_any a _ _ hW ha V)
  have HB := Lib.hid (fun V => ocut_any b _ _ hW hb V)
  have hA := cut_lt a (foldW op)
  have hB := cut_lt b (foldW op)
  have HF : Hid (∀ V, Calls Tryd.prog 17 #[.int .i64 op] V fun e w' => e = .returned (.tuple #[.int .i64 (foldC op), .int .u64 (foldW op : Int)]) ∧ V = w') := Lib.hid fun V => fold_any op V
  rw [binAll_code]
  generalize foldC op = c at *
  generalize foldW op = w at *
  generalize cutN a w = A at *
  generalize cutN b w = B at *
  unfold codeVal
  by_cases h1 : 70 ≤ c ∧ c ≤ 79
  · rw [if_pos h1, bin_cmp _ _ _ _ (show (c - 70).toNat < 10 by omega)]
    refine obin_cmp op a b A B c _ wo HF HA HB _ (Lib.hid fun V => ?_)
    have := cmp_any (c - 70).toNat A B w _ hW hA hB V (by omega)
    rw [show (70 + (((c - 70).toNat : Nat) : Int) : Int) = c from by omega] at this
    exact this
  rw [if_neg h1]
  have HP : Hid (∀ V, Calls Tryd.prog 27 #[.int .i64 c, .int .u64 (A : Int), .int .u64 (B : Int), .int .u64 (w : Int)] V (Cmp2 V false false)) := Lib.hid fun V => cmp_none c A B w _ hW hA hB V (by omega)
  by_cases h2 : 106 ≤ c ∧ c ≤ 120
  · rw [if_pos h2]
    by_cases h3 : 109 ≤ c ∧ c ≤ 112
    · refine obin_div op a b A B c _ wo HF HA HB _ _ h3.1 h3.2 HP (Lib.hid fun V => ?_)
      have := odiv_any (c - 109).toNat A B w _ hW V hA hB (by omega)
      rw [show (109 + (((c - 109).toNat : Nat) : Int) : Int) = c from by omega, show 13 + (c - 109).toNat = (c - 106).toNat + 10 from by omega] at this
      exact this
    · obtain ⟨k1, k2⟩ := comb_k c h2 h3 _ rfl
      rw [bin_plain _ _ _ _ k2]
      have HM := Lib.hid (fun V => ocomb_any ((c - 106).toNat + 10) A B w _ c hW V hA hB k1)
      by_cases h4 : 109 ≤ c
      · exact obin_hi_true op a b A B c _ wo HF HA HB _ h4 (by omega) HP HM
      · exact obin_lo_true op a b A B c _ wo HF HA HB _ h4 HP HM
  · rw [if_neg h2]
    have HM := Lib.hid (fun V => ocomb_none A B w _ c hW V (by omega))
    by_cases h4 : 109 ≤ c
    · exact obin_hi_false op a b A B c _ wo HF HA HB h4 (by omega) HP HM
    · exact obin_lo_false op a b A B c _ wo HF HA HB h4 HP HM
end Go.Proofs.YtbgcafkdojoilaaDoor.Num
