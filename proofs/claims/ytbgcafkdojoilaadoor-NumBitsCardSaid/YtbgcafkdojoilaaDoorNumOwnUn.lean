/-
  num's own Un, for every code: what the reference answers. Conditions: the number is of 64 bits; the library's table of bits.TrailingZeros64 holds what it was laid with.
-/
import Derived.Test.YtbgcafkdojoilaaDoorNumConvert
import Derived.Test.YtbgcafkdojoilaaDoorNumShelf
import Derived.Test.YtbgcafkdojoilaaDoorNumOnesWalk
import Derived.Test.YtbgcafkdojoilaaDoorNumBridge
import Derived.Test.YtbgcafkdojoilaaDoorNumLaw
namespace Go.Proofs.YtbgcafkdojoilaaDoor.Num
open Go.RowKit Go.Shelf

/-- The library's table holds what it was laid with. -/
def Tab (w : World) : Prop := TabAt (Tryd.lays29_ren.g 1) Lib.deBruijn64tab w ∧ Tryd.lays29_ren.g 1 < w.heap.size
theorem Tab.below {w w' : World} (h : Tab w) (hb : Below w.heap.size w w') : Tab w' :=
  ⟨fun j hj => (hb.cell h.2).trans (h.1 j hj), Nat.lt_of_lt_of_le h.2 hb.size⟩
theorem len64_any (x : Nat) (w : World) (hx : x < 18446744073709551616) :
    Calls Tryd.prog 20 #[.int .u64 (x : Int)] w fun e w' => e = .returned (.int .i64 ((Lib.bitLen x : Nat) : Int)) ∧ w = w' := by
  have h : Calls Tryd.prog 20 #[.int .u64 (x : Int)] w _ := Any.bits_Len64 Tryd.lays129 (x : Int) w (by omega) (by omega)
  refine h.mono ?_
  rintro e w' ⟨rfl, rfl⟩
  exact ⟨by rw [Int.toNat_natCast], rfl⟩
theorem tz64_any (x : Nat) (w : World) (hx : x < 18446744073709551616) (hT : Tab w) :
    Calls Tryd.prog 21 #[.int .u64 (x : Int)] w fun e w' => e = .returned (.int .i64 ((Lib.ctz 64 x : Nat) : Int)) ∧ w = w' := by
  have h : Calls Tryd.prog 21 #[.int .u64 (x : Int)] w _ := Any7.bits_TrailingZeros64 Tryd.lays29 x hx w (fun _ => hT.1)
  refine h.mono ?_
  rintro e w' ⟨rfl, rfl⟩
  exact ⟨rfl, rfl⟩
theorem tzF_min (a i d e : Nat) : min (tzF a i (d + e)) d = tzF a i d := by
  induction d generalizing i with
  | zero => simp [tzF]
  | succ d ih =>
    rw [show d + 1 + e = (d + e) + 1 from by omega]
    by_cases h : bitN a i = 0
    · rw [tzF_one a i (d + e) h, tzF_one a i d h]
      have := ih (i + 1)
      omega
    · rw [tzF_none a i (d + e) h, tzF_none a i d h]
      simp
theorem oun_cvt (op : Int) (a v : Nat) (wo : World)
    (HC : Hid (∀ V, Calls Tryd.prog 16 #[.int .i64 op, .int .u64 (a : Int)] V (Is2 V v true))) :
    Calls Tryd.prog 10 #[.int .i64 op, .int .u64 (a : Int)] wo (Is2 wo v true) := by
  go_enter Tryd.func10, Tryd.ntmps10
  go_wp2_with fail
  refine (HC.out _).mono ?_
  rintro e w' ⟨rfl, rfl⟩
  go_wp2
  go_ret2
  exact ⟨rfl, rfl⟩
section
variable (op : Int) (a k : Nat) (W : Int) (wo : World)
    (HC : Hid (∀ V, Calls Tryd.prog 16 #[.int .i64 op, .int .u64 (a : Int)] V (Is2 V 0 false)))
    (HK : Hid (∀ V, Calls Tryd.prog 18 #[.int .u64 (a : Int), .int .u64 W] V fun e w' => e = .returned (.int .u64 (k : Int)) ∧ V = w'))
include HC HK
set_option maxRecDepth 100000 in
theorem oun_eqz (HF : Hid (∀ V, Calls Tryd.prog 17 #[.int .i64 op] V fun e w' => e = .returned (.tuple #[.int .i64 69, .int .u64 W]) ∧ V = w')) :
    Calls Tryd.prog 10 #[.int .i64 op, .int .u64 (a : Int)] wo (Is2 wo (((k : Int) == 0).toNat) true) := by
  go_enter Tryd.func10, Tryd.ntmps10
  go_wp2_with fail
  refine (HC.out _).mono ?_
  rintro e w' ⟨rfl, rfl⟩
  go_wp2_with fail
  refine (HF.out _).mono ?_
  rintro e w' ⟨rfl, rfl⟩
  go_wp2_with fail
  refine (HK.out _).mono ?_
  rintro e w' ⟨rfl, rfl⟩
  go_wp2_with fail
  refine (truth_any _ _).mono ?_
  rintro e w' ⟨rfl, rfl⟩
  go_wp2
  go_ret2
  exact ⟨rfl, rfl⟩
set_option maxRecDepth 100000 in
theorem oun_clz (w n l : Nat) (hW : W = (w : Int)) (hl : l ≤ w) (hw : w ≤ 64) (hn : n = w - l) (HF : Hid (∀ V, Calls Tryd.prog 17 #[.int .i64 op] V fun e w' => e = .returned (.tuple #[.int .i64 103, .int .u64 W]) ∧ V = w'))
    (HL : Hid (∀ V, Calls Tryd.prog 20 #[.int .u64 (k : Int)] V fun e w' => e = .returned (.int .i64 (l : Int)) ∧ V = w')) :
    Calls Tryd.prog 10 #[.int .i64 op, .int .u64 (a : Int)] wo (Is2 wo n true) := by
  have h1 : IntKind.u64.wrap (l : Int) = (l : Int) := by rw [IntKind.wrap_u64]; omega
  have h2 : IntKind.u64.wrap (W - (l : Int)) = (n : Int) := by rw [IntKind.wrap_u64]; omega
  clear hl hw hn hW
  go_enter Tryd.func10, Tryd.ntmps10
  go_wp2_with fail
  refine (HC.out _).mono ?_
  rintro e w' ⟨rfl, rfl⟩
  go_wp2_with fail
  refine (HF.out _).mono ?_
  rintro e w' ⟨rfl, rfl⟩
  go_wp2_with fail
  refine (HK.out _).mono ?_
  rintro e w' ⟨rfl, rfl⟩
  go_wp2_with fail
  refine (HL.out _).mono ?_
  rintro e w' ⟨rfl, rfl⟩
  go_wp2
  go_ret2
  exact ⟨rfl, rfl⟩
set_option maxRecDepth 100000 in
theorem oun_ctz (w n l : Nat) (hW : W = (w : Int)) (hl : l ≤ 64) (hn : n = min l w) (HF : Hid (∀ V, Calls Tryd.prog 17 #[.int .i64 op] V fun e w' => e = .returned (.tuple #[.int .i64 104, .int .u64 W]) ∧ V = w'))
    (HL : Hid (Calls Tryd.prog 21 #[.int .u64 (k : Int)] wo fun e w' => e = .returned (.int .i64 (l : Int)) ∧ wo = w')) :
    Calls Tryd.prog 10 #[.int .i64 op, .int .u64 (a : Int)] wo (Is2 wo n true) := by
  have h1 : IntKind.u64.wrap (l : Int) = (l : Int) := by rw [IntKind.wrap_u64]; omega
  have h2 := Lib.hid (show min (l : Int) W = (n : Int) by omega)
  clear hl hn hW
  go_enter Tryd.func10, Tryd.ntmps10
  go_wp2_with fail
  refine (HC.out _).mono ?_
  rintro e w' ⟨rfl, rfl⟩
  go_wp2_with fail
  refine (HF.out _).mono ?_
  rintro e w' ⟨rfl, rfl⟩
  go_wp2_with fail
  refine (HK.out _).mono ?_
  rintro e w' ⟨rfl, rfl⟩
  go_wp2_with fail
  refine (HL.out).mono ?_
  rintro e w' ⟨rfl, rfl⟩
  go_wp2
  rw [h2.out]
  go_ret2
  exact ⟨rfl, rfl⟩
set_option maxRecDepth 100000 in
theorem oun_pop (n : Nat) (hn : n ≤ 64) (HF : Hid (∀ V, Calls Tryd.prog 17 #[.int .i64 op] V fun e w' => e = .returned (.tuple #[.int .i64 105, .int .u64 W]) ∧ V = w'))
    (HL : Hid (∀ V, Calls Tryd.prog 22 #[.int .u64 (k : Int)] V fun e w' => e = .returned (.int .i64 (n : Int)) ∧ V = w')) :
    Calls Tryd.prog 10 #[.int .i64 op, .int .u64 (a : Int)] wo (Is2 wo n true) := by
  have h1 : IntKind.u64.wrap (n : Int) = (n : Int) := by rw [IntKind.wrap_u64]; omega
  clear hn
  go_enter Tryd.func10, Tryd.ntmps10
  go_wp2_with fail
  refine (HC.out _).mono ?_
  rintro e w' ⟨rfl, rfl⟩
  go_wp2_with fail
  refine (HF.out _).mono ?_
  rintro e w' ⟨rfl, rfl⟩
  go_wp2_with fail
  refine (HK.out _).mono ?_
  rintro e w' ⟨rfl, rfl⟩
  go_wp2_with fail
  refine (HL.out _).mono ?_
  rintro e w' ⟨rfl, rfl⟩
  go_wp2
  go_ret2
  exact ⟨rfl, rfl⟩
set_option maxRecDepth 100000 in
theorem oun_none (c : Int) (h : c ≠ 69 ∧ c ≠ 103 ∧ c ≠ 104 ∧ c ≠ 105) (HF : Hid (∀ V, Calls Tryd.prog 17 #[.int .i64 op] V fun e w' => e = .returned (.tuple #[.int .i64 c, .int .u64 W]) ∧ V = w')) :
    Calls Tryd.prog 10 #[.int .i64 op, .int .u64 (a : Int)] wo (Is2 wo 0 false) := by
  have t69 : (c == 69) = false := by simp; omega
  have t103 : (c == 103) = false := by simp; omega
  have t104 : (c == 104) = false := by simp; omega
  have t105 : (c == 105) = false := by simp; omega
  clear h
  go_enter Tryd.func10, Tryd.ntmps10
  go_wp2_with fail
  refine (HC.out _).mono ?_
  rintro e w' ⟨rfl, rfl⟩
  go_wp2_with fail
  refine (HF.out _).mono ?_
  rintro e w' ⟨rfl, rfl⟩
  go_wp2_with fail
  refine (HK.out _).mono ?_
  rintro e w' ⟨rfl, rfl⟩
  go_wp2
  go_ret2
  exact ⟨rfl, rfl⟩
end
theorem unVal_cvt (op : Int) (a : Nat) (h : (cvt op a).2 = true) : unVal op a = cvt op a := by
  unfold cvt at h ⊢
  unfold unVal
  by_cases h1 : op = 167 ∨ op = 173
  · rw [if_pos h1, if_neg (by omega), if_neg (by omega), if_neg (by omega), if_neg (by omega), if_neg (by omega), if_neg (by omega), if_neg (by omega), if_neg (by omega)]
  rw [if_neg h1] at h ⊢
  by_cases h2 : op = 172 ∨ op = 196
  · rw [if_pos h2, if_neg (by omega), if_neg (by omega), if_neg (by omega), if_neg (by omega), if_neg (by omega), if_neg (by omega), if_neg (by omega), if_neg (by omega)]
  rw [if_neg h2] at h ⊢
  have hge : 192 ≤ op := by
    by_cases h3 : op = 192
    · omega
    · rw [if_neg h3] at h
      by_cases h4 : op = 193
      · omega
      · rw [if_neg h4] at h
        by_cases h5 : op = 194
        · omega
        · rw [if_neg h5] at h
          by_cases h6 : op = 195
          · omega
          · rw [if_neg h6] at h; simp at h
  rw [if_neg (by omega), if_neg (by omega), if_neg (by omega), if_neg (by omega), if_neg (by omega), if_neg (by omega), if_neg (by omega), if_neg (by omega)]
theorem cvt_none (op : Int) (a : Nat) (h : (cvt op a).2 = false) : cvt op a = (0, false) ∧ op ≠ 167 ∧ op ≠ 173 ∧ op ≠ 172 ∧ op ≠ 196 ∧ op ≠ 192 ∧ op ≠ 193 ∧ op ≠ 194 ∧ op ≠ 195 := by
  unfold cvt at h ⊢
  by_cases h1 : op = 167 ∨ op = 173
  · rw [if_pos h1] at h; simp at h
  rw [if_neg h1] at h ⊢
  by_cases h2 : op = 172 ∨ op = 196
  · rw [if_pos h2] at h; simp at h
  rw [if_neg h2] at h ⊢
  by_cases h3 : op = 192
  · rw [if_pos h3] at h; simp at h
  rw [if_neg h3] at h ⊢
  by_cases h4 : op = 193
  · rw [if_pos h4] at h; simp at h
  rw [if_neg h4] at h ⊢
  by_cases h5 : op = 194
  · rw [if_pos h5] at h; simp at h
  rw [if_neg h5] at h ⊢
  by_cases h6 : op = 195
  · rw [if_pos h6] at h; simp at h
  rw [if_neg h6] at h ⊢
  exact ⟨rfl, by omega, by omega, by omega, by omega, h3, h4, h5, h6⟩
theorem clz_val (k w : Nat) (hw : w = 32 ∨ w = 64) (hk : k < 2 ^ w) : lzF k w = w - Lib.bitLen k ∧ Lib.bitLen k ≤ w ∧ w ≤ 64 := by
  rcases hw with rfl | rfl
  · exact ⟨lz_len k 32 (by omega) hk, len_le k 32 (by omega) hk, by omega⟩
  · exact ⟨lz_len k 64 (by omega) hk, len_le k 64 (by omega) hk, by omega⟩
theorem ctz_val (k w : Nat) (hw : w = 32 ∨ w = 64) : tzF k 0 w = min (Lib.ctz 64 k) w ∧ Lib.ctz 64 k ≤ 64 := by
  rw [← tz_ctz k 64]
  refine ⟨?_, tzF_le k 0 64⟩
  rcases hw with rfl | rfl
  · exact (tzF_min k 0 32 32).symm
  · exact (tzF_min k 0 64 0).symm
theorem pop_val (k w : Nat) (hw : w = 32 ∨ w = 64) (hk : k < 2 ^ w) : pcF k w = pcF k 64 := by
  rcases hw with rfl | rfl
  · exact (pcF_more k 32 32 hk).symm
  · rfl
theorem oun_any (op : Int) (a : Nat) (wo : World) (ha : a < 18446744073709551616) (hT : Tab wo) :
    Calls Tryd.prog 10 #[.int .i64 op, .int .u64 (a : Int)] wo (Is2 wo (unVal op a).1 (unVal op a).2) := by
  cases hc : (cvt op a).2 with
  | true =>
    rw [unVal_cvt op a hc, hc]
    refine oun_cvt op a _ wo (Lib.hid fun V => ?_)
    have := cvt_any op a V
    rw [hc] at this
    exact this
  | false =>
    obtain ⟨hv, n1, n2, n3, n4, n5, n6, n7, n8⟩ := cvt_none op a hc
    have HC : Hid (∀ V, Calls Tryd.prog 16 #[.int .i64 op, .int .u64 (a : Int)] V (Is2 V 0 false)) := Lib.hid fun V => by
      have := cvt_any op a V
      rw [hv] at this
      exact this
    have hW := foldW_wide op
    have hw : foldW op = 32 ∨ foldW op = 64 := by unfold Wide at hW; omega
    have HK := Lib.hid (fun V => ocut_any a _ _ hW ha V)
    have hk := cut_lt a (foldW op)
    have hk64 : cutN a (foldW op) < 18446744073709551616 := Nat.lt_of_le_of_lt (Nat.mod_le _ _) ha
    have HF : ∀ c, foldC op = c → Hid (∀ V, Calls Tryd.prog 17 #[.int .i64 op] V fun e w' => e = .returned (.tuple #[.int .i64 c, .int .u64 (foldW op : Int)]) ∧ V = w') := fun c hc => Lib.hid fun V => by
      have := fold_any op V
      unfold Fold at this
      rw [hc] at this
      exact this
    have h1 := clz_val _ _ hw hk
    have h2 := ctz_val (cutN a (foldW op)) _ hw
    have h3 := pop_val _ _ hw hk
    have h4 := pcF_le (cutN a (foldW op)) 64
    by_cases c69 : foldC op = 69
    · have hu : unVal op a = (((((cutN a (foldW op) : Nat) : Int) == 0).toNat), true) := by
        have : op = 69 ∨ op = 80 := by unfold foldC at c69; split at c69; · omega
                                       · split at c69 <;> omega
        rcases this with rfl | rfl <;> rfl
      rw [hu]
      exact oun_eqz op a _ _ wo HC HK (HF _ c69)
    by_cases c103 : foldC op = 103
    · have hu : unVal op a = (lzF (cutN a (foldW op)) (foldW op), true) := by
        have : op = 103 ∨ op = 121 := by unfold foldC at c103; split at c103; · omega
                                         · split at c103 <;> omega
        rcases this with rfl | rfl <;> rfl
      rw [hu]
      exact oun_clz op a _ _ wo HC HK (foldW op) _ _ rfl h1.2.1 h1.2.2 h1.1 (HF _ c103) (Lib.hid fun V => len64_any _ V hk64)
    by_cases c104 : foldC op = 104
    · have hu : unVal op a = (tzF (cutN a (foldW op)) 0 (foldW op), true) := by
        have : op = 104 ∨ op = 122 := by unfold foldC at c104; split at c104; · omega
                                         · split at c104 <;> omega
        rcases this with rfl | rfl <;> rfl
      rw [hu]
      exact oun_ctz op a _ _ wo HC HK (foldW op) _ _ rfl h2.2 h2.1 (HF _ c104) (Lib.hid (tz64_any _ wo hk64 hT))
    by_cases c105 : foldC op = 105
    · have hu : unVal op a = (pcF (cutN a (foldW op)) (foldW op), true) := by
        have : op = 105 ∨ op = 123 := by unfold foldC at c105; split at c105; · omega
                                         · split at c105 <;> omega
        rcases this with rfl | rfl <;> rfl
      rw [hu, h3]
      exact oun_pop op a _ _ wo HC HK _ h4 (HF _ c105) (Lib.hid fun V => ones64_any _ V hk64)
    · have hu : unVal op a = (0, false) := by
        have hn : op ≠ 69 ∧ op ≠ 80 ∧ op ≠ 103 ∧ op ≠ 121 ∧ op ≠ 104 ∧ op ≠ 122 ∧ op ≠ 105 ∧ op ≠ 123 := by
          refine ⟨?_, ?_, ?_, ?_, ?_, ?_, ?_, ?_⟩ <;> rintro rfl
          · exact c69 rfl
          · exact c69 rfl
          · exact c103 rfl
          · exact c103 rfl
          · exact c104 rfl
          · exact c104 rfl
          · exact c105 rfl
          · exact c105 rfl
        unfold unVal
        rw [if_neg (by omega), if_neg (by omega), if_neg (by omega), if_neg (by omega), if_neg (by omega), if_neg (by omega), if_neg (by omega), if_neg (by omega), if_neg (by omega), if_neg (by omega), if_neg (by omega), if_neg (by omega), if_neg (by omega), if_neg (by omega)]
      rw [hu]
      exact oun_none op a _ _ wo HC HK _ ⟨c69, c103, c104, c105⟩ (HF _ rfl)
end Go.Proofs.YtbgcafkdojoilaaDoor.Num
