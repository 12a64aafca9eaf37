/-
  trammellaw01.LebLeast answers true for every slice of bytes. Condition: the bytes lie in memory as a slice's cells.
-/
import Derived.Test.YtjillijkbmncmaaLebPutS
import Derived.Test.YtjillijkbmncmaaLebPut
import Derived.Test.YtjillijkbmncmaaLebBackMath
import Derived.Test.YtjillijkbmncmaaLebWiderWalk
namespace Go.Proofs.Ytjillijkbmncmaa.Leb
open Go.RowKit

theorem gath_ok {l : List Nat} {m v s : Nat} (h : gath l m = (v, s, 0)) : s = lead l + 1 ∧ v = val (l.take s) % big ∧ s ≤ m ∧ s ≤ l.length := by
  unfold gath at h
  have hl := lead_le l
  by_cases h1 : m ≤ lead l
  · rw [if_pos h1] at h; simp at h
  · rw [if_neg h1] at h
    by_cases h2 : lead l = l.length
    · rw [if_pos h2] at h; simp at h
    · rw [if_neg h2] at h
      injection h with h3 h4
      injection h4 with h4 h5
      subst h4
      exact ⟨rfl, h3.symm, by omega, by omega⟩
theorem uRes_least (l : List Nat) (h : (uRes l 64).2.2 = 0) : (putU (uRes l 64).1).length ≤ (uRes l 64).2.1 ∧ (uRes l 64).1 < 18446744073709551616 := by
  obtain ⟨v, s, e, hg, _, hs⟩ := gath_cases l (most 64)
  unfold uRes at h ⊢
  rw [hg] at h ⊢
  by_cases he : e = 0
  · subst he
    obtain ⟨hs1, hsm, hsl⟩ := hs rfl
    obtain ⟨h1, h2, _, _⟩ := gath_ok hg
    rw [if_pos rfl] at h ⊢
    by_cases c : s = most 64 ∧ l.getD (most 64 - 1) 0 / 2 ^ inl 64 ≠ 0
    · rw [if_pos c] at h; simp at h
    · rw [if_neg c]
      simp only
      have hlt : v < 128 ^ s := by
        have h3 := val_lt (l.take s)
        have h4 : (l.take s).length = s := by simp; omega
        rw [h4] at h3
        exact Nat.lt_of_le_of_lt (by rw [h2]; exact Nat.mod_le _ _) h3
      exact ⟨putUf_least 9 v s hs1 hlt, by rw [h2]; exact Nat.mod_lt _ (by unfold big; omega)⟩
  · rw [if_neg he] at h
    exact absurd h he
theorem ext_range (v : Nat) (k : Nat) (h0 : 1 ≤ k) (h10 : k ≤ 10) (hv : v < 128 ^ k) : -9223372036854775808 ≤ ext (v % big : Nat) ((k : Int) * 7) ∧ ext (v % big : Nat) ((k : Int) * 7) ≤ 9223372036854775807 := by
  rcases Nat.lt_or_ge k 10 with h | h
  · have h1 := ext_fits k v h0 h10 hv
    have h2 : (128 : Nat) ^ (k - 1) ≤ 128 ^ 8 := Nat.pow_le_pow_right (by omega) (by omega)
    have hc : ((128 ^ (k - 1) : Nat) : Int) = (128 : Int) ^ (k - 1) := by simp
    rw [← hc] at h1
    omega
  · obtain rfl : k = 10 := by omega
    have := ext_ten (v % big)
    rw [this, wrap64_def]
    omega
theorem sRes_least (l : List Nat) (h : (sRes l 64).2.2 = 0) : (putS (sRes l 64).1).length ≤ (sRes l 64).2.1 ∧ -9223372036854775808 ≤ (sRes l 64).1 ∧ (sRes l 64).1 ≤ 9223372036854775807 := by
  obtain ⟨v, s, e, hg, _, hs⟩ := gath_cases l (most 64)
  unfold sRes at h ⊢
  rw [hg] at h ⊢
  by_cases he : e = 0
  · subst he
    obtain ⟨hs1, hsm, hsl⟩ := hs rfl
    obtain ⟨h1, h2, _, _⟩ := gath_ok hg
    have hm : most 64 = 10 := rfl
    rw [if_pos rfl] at h ⊢
    by_cases c : s = most 64 ∧ csB (l.getD (most 64 - 1) 0 : Nat) (inl 64 : Nat) = false
    · rw [if_pos c] at h; simp at h
    · rw [if_neg c]
      simp only
      have h3 := val_lt (l.take s)
      have h4 : (l.take s).length = s := by simp; omega
      rw [h4] at h3
      rw [h2]
      exact ⟨putSf_least 9 _ s hs1 (ext_fits s _ hs1 (by omega) h3), ext_range _ s hs1 (by omega) h3⟩
  · rw [if_neg he] at h
    exact absurd h he
section
variable (A : Option Addr) (len cap a1 k1 e1 p1 f1 j1 j2 : Nat) (x1 : Int) (w : World)
set_option maxHeartbeats 1000000 in
theorem least_small_00 (hl : len ≤ cap) (hk : len ≤ 20) (H1 : ToldU w A len cap 64 a1 k1 0) (H3 : ToldS w A len cap 64 x1 p1 0) (HA : Hid (a1 < 18446744073709551616)) (KA : Hid ((putU a1).length = j1)) (hj1 : j1 ≤ k1) (HX : Hid (-9223372036854775808 ≤ x1 ∧ x1 ≤ 9223372036854775807)) (KX : Hid ((putS x1).length = j2)) (hj2 : j2 ≤ p1) :
    Calls Try.prog 6 #[.slice A len cap] w fun e w' => e = .returned (.bool true) ∧ Below w.heap.size w w' := by
  go_enter Try.func6, Try.ntmps6
  go_wp2_with (go_at_call 9; refine (awake_any _).mono ?_; rintro e w' ⟨rfl, hb1⟩)
  refine (H1 _ hb1).mono ?_
  rintro e w1 ⟨rfl, d1, rfl⟩
  go_wp2_with fail
  refine (putU_nil a1 j1 _ HA.out KA.out).mono ?_
  rintro e w2 ⟨A2, c2, rfl, -, -, -, -, hb2⟩
  go_wp2_with fail
  have hb1 := (below_drewN hb1 d1).trans (hb2.mono hb1.size)
  refine (H3 _ hb1).mono ?_
  rintro e w3 ⟨rfl, d3, rfl⟩
  go_wp2_with fail
  refine (putS_nil x1 j2 _ HX.out KX.out).mono ?_
  rintro e w4 ⟨A4, c4, rfl, -, -, -, -, hb4⟩
  go_wp2
  go_ret
  exact ⟨rfl, (below_drewN hb1 _).trans (hb4.mono hb1.size)⟩
set_option maxHeartbeats 1000000 in
theorem least_small_01 (hl : len ≤ cap) (hk : len ≤ 20) (H1 : ToldU w A len cap 64 a1 k1 0) (H3 : ToldS w A len cap 64 x1 p1 f1) (HA : Hid (a1 < 18446744073709551616)) (KA : Hid ((putU a1).length = j1)) (hj1 : j1 ≤ k1) (hf : f1 ≠ 0) :
    Calls Try.prog 6 #[.slice A len cap] w fun e w' => e = .returned (.bool true) ∧ Below w.heap.size w w' := by
  have t2 : ((f1 : Int) != 0) = true := by simp; omega
  clear hf
  go_enter Try.func6, Try.ntmps6
  go_wp2_with (go_at_call 9; refine (awake_any _).mono ?_; rintro e w' ⟨rfl, hb1⟩)
  refine (H1 _ hb1).mono ?_
  rintro e w1 ⟨rfl, d1, rfl⟩
  go_wp2_with fail
  refine (putU_nil a1 j1 _ HA.out KA.out).mono ?_
  rintro e w2 ⟨A2, c2, rfl, -, -, -, -, hb2⟩
  go_wp2_with fail
  have hb1 := (below_drewN hb1 d1).trans (hb2.mono hb1.size)
  refine (H3 _ hb1).mono ?_
  rintro e w3 ⟨rfl, d3, rfl⟩
  go_wp2
  go_ret
  exact ⟨rfl, below_drewN hb1 _⟩
set_option maxHeartbeats 1000000 in
theorem least_small_10 (hl : len ≤ cap) (hk : len ≤ 20) (H1 : ToldU w A len cap 64 a1 k1 e1) (H3 : ToldS w A len cap 64 x1 p1 0) (he : e1 ≠ 0) (HX : Hid (-9223372036854775808 ≤ x1 ∧ x1 ≤ 9223372036854775807)) (KX : Hid ((putS x1).length = j2)) (hj2 : j2 ≤ p1) :
    Calls Try.prog 6 #[.slice A len cap] w fun e w' => e = .returned (.bool true) ∧ Below w.heap.size w w' := by
  have t1 : ((e1 : Int) == 0) = false := by simp; omega
  clear he
  go_enter Try.func6, Try.ntmps6
  go_wp2_with (go_at_call 9; refine (awake_any _).mono ?_; rintro e w' ⟨rfl, hb1⟩)
  refine (H1 _ hb1).mono ?_
  rintro e w1 ⟨rfl, d1, rfl⟩
  go_wp2_with fail
  refine (H3 _ (below_drewN hb1 _)).mono ?_
  rintro e w2 ⟨rfl, d2, rfl⟩
  go_wp2_with fail
  refine (putS_nil x1 j2 _ HX.out KX.out).mono ?_
  rintro e w4 ⟨A4, c4, rfl, -, -, -, -, hb4⟩
  go_wp2
  go_ret
  exact ⟨rfl, (below_drewN hb1 _).trans (hb4.mono hb1.size)⟩
set_option maxHeartbeats 1000000 in
theorem least_small_11 (hl : len ≤ cap) (hk : len ≤ 20) (H1 : ToldU w A len cap 64 a1 k1 e1) (H3 : ToldS w A len cap 64 x1 p1 f1) (he : e1 ≠ 0) (hf : f1 ≠ 0) :
    Calls Try.prog 6 #[.slice A len cap] w fun e w' => e = .returned (.bool true) ∧ Below w.heap.size w w' := by
  have t1 : ((e1 : Int) == 0) = false := by simp; omega
  clear he
  have t2 : ((f1 : Int) != 0) = true := by simp; omega
  clear hf
  go_enter Try.func6, Try.ntmps6
  go_wp2_with (go_at_call 9; refine (awake_any _).mono ?_; rintro e w' ⟨rfl, hb1⟩)
  refine (H1 _ hb1).mono ?_
  rintro e w1 ⟨rfl, d1, rfl⟩
  go_wp2_with fail
  refine (H3 _ (below_drewN hb1 _)).mono ?_
  rintro e w2 ⟨rfl, d2, rfl⟩
  go_wp2
  go_ret
  exact ⟨rfl, below_drewN hb1 _⟩
set_option maxHeartbeats 1000000 in
theorem least_great_00 (hl : len ≤ cap) (hk : 20 < len) (H1 : ToldU w A 20 cap 64 a1 k1 0) (H3 : ToldS w A 20 cap 64 x1 p1 0) (HA : Hid (a1 < 18446744073709551616)) (KA : Hid ((putU a1).length = j1)) (hj1 : j1 ≤ k1) (HX : Hid (-9223372036854775808 ≤ x1 ∧ x1 ≤ 9223372036854775807)) (KX : Hid ((putS x1).length = j2)) (hj2 : j2 ≤ p1) :
    Calls Try.prog 6 #[.slice A len cap] w fun e w' => e = .returned (.bool true) ∧ Below w.heap.size w w' := by
  go_enter Try.func6, Try.ntmps6
  go_wp2_with (go_at_call 9; refine (awake_any _).mono ?_; rintro e w' ⟨rfl, hb1⟩)
  refine (H1 _ hb1).mono ?_
  rintro e w1 ⟨rfl, d1, rfl⟩
  go_wp2_with fail
  refine (putU_nil a1 j1 _ HA.out KA.out).mono ?_
  rintro e w2 ⟨A2, c2, rfl, -, -, -, -, hb2⟩
  go_wp2_with fail
  have hb1 := (below_drewN hb1 d1).trans (hb2.mono hb1.size)
  refine (H3 _ hb1).mono ?_
  rintro e w3 ⟨rfl, d3, rfl⟩
  go_wp2_with fail
  refine (putS_nil x1 j2 _ HX.out KX.out).mono ?_
  rintro e w4 ⟨A4, c4, rfl, -, -, -, -, hb4⟩
  go_wp2
  go_ret
  exact ⟨rfl, (below_drewN hb1 _).trans (hb4.mono hb1.size)⟩
set_option maxHeartbeats 1000000 in
theorem least_great_01 (hl : len ≤ cap) (hk : 20 < len) (H1 : ToldU w A 20 cap 64 a1 k1 0) (H3 : ToldS w A 20 cap 64 x1 p1 f1) (HA : Hid (a1 < 18446744073709551616)) (KA : Hid ((putU a1).length = j1)) (hj1 : j1 ≤ k1) (hf : f1 ≠ 0) :
    Calls Try.prog 6 #[.slice A len cap] w fun e w' => e = .returned (.bool true) ∧ Below w.heap.size w w' := by
  have t2 : ((f1 : Int) != 0) = true := by simp; omega
  clear hf
  go_enter Try.func6, Try.ntmps6
  go_wp2_with (go_at_call 9; refine (awake_any _).mono ?_; rintro e w' ⟨rfl, hb1⟩)
  refine (H1 _ hb1).mono ?_
  rintro e w1 ⟨rfl, d1, rfl⟩
  go_wp2_with fail
  refine (putU_nil a1 j1 _ HA.out KA.out).mono ?_
  rintro e w2 ⟨A2, c2, rfl, -, -, -, -, hb2⟩
  go_wp2_with fail
  have hb1 := (below_drewN hb1 d1).trans (hb2.mono hb1.size)
  refine (H3 _ hb1).mono ?_
  rintro e w3 ⟨rfl, d3, rfl⟩
  go_wp2
  go_ret
  exact ⟨rfl, below_drewN hb1 _⟩
set_option maxHeartbeats 1000000 in
theorem least_great_10 (hl : len ≤ cap) (hk : 20 < len) (H1 : ToldU w A 20 cap 64 a1 k1 e1) (H3 : ToldS w A 20 cap 64 x1 p1 0) (he : e1 ≠ 0) (HX : Hid (-9223372036854775808 ≤ x1 ∧ x1 ≤ 9223372036854775807)) (KX : Hid ((putS x1).length = j2)) (hj2 : j2 ≤ p1) :
    Calls Try.prog 6 #[.slice A len cap] w fun e w' => e = .returned (.bool true) ∧ Below w.heap.size w w' := by
  have t1 : ((e1 : Int) == 0) = false := by simp; omega
  clear he
  go_enter Try.func6, Try.ntmps6
  go_wp2_with (go_at_call 9; refine (awake_any _).mono ?_; rintro e w' ⟨rfl, hb1⟩)
  refine (H1 _ hb1).mono ?_
  rintro e w1 ⟨rfl, d1, rfl⟩
  go_wp2_with fail
  refine (H3 _ (below_drewN hb1 _)).mono ?_
  rintro e w2 ⟨rfl, d2, rfl⟩
  go_wp2_with fail
  refine (putS_nil x1 j2 _ HX.out KX.out).mono ?_
  rintro e w4 ⟨A4, c4, rfl, -, -, -, -, hb4⟩
  go_wp2
  go_ret
  exact ⟨rfl, (below_drewN hb1 _).trans (hb4.mono hb1.size)⟩
set_option maxHeartbeats 1000000 in
theorem least_great_11 (hl : len ≤ cap) (hk : 20 < len) (H1 : ToldU w A 20 cap 64 a1 k1 e1) (H3 : ToldS w A 20 cap 64 x1 p1 f1) (he : e1 ≠ 0) (hf : f1 ≠ 0) :
    Calls Try.prog 6 #[.slice A len cap] w fun e w' => e = .returned (.bool true) ∧ Below w.heap.size w w' := by
  have t1 : ((e1 : Int) == 0) = false := by simp; omega
  clear he
  have t2 : ((f1 : Int) != 0) = true := by simp; omega
  clear hf
  go_enter Try.func6, Try.ntmps6
  go_wp2_with (go_at_call 9; refine (awake_any _).mono ?_; rintro e w' ⟨rfl, hb1⟩)
  refine (H1 _ hb1).mono ?_
  rintro e w1 ⟨rfl, d1, rfl⟩
  go_wp2_with fail
  refine (H3 _ (below_drewN hb1 _)).mono ?_
  rintro e w2 ⟨rfl, d2, rfl⟩
  go_wp2
  go_ret
  exact ⟨rfl, below_drewN hb1 _⟩
end
theorem least_law (A : Option Addr) (l : List Nat) (cap : Nat) (w : World) (hb : Bytes w w.heap.size A l) (hl : l.length ≤ cap) :
    Calls Try.prog 6 #[.slice A l.length cap] w fun e w' => e = .returned (.bool true) ∧ Below w.heap.size w w' := by
  by_cases hk : l.length ≤ 20
  · have t1 := told_U hb cap 64 (by omega) (by omega)
    have t3 := told_S hb cap 64 (by omega) (by omega)
    by_cases h1 : (uRes l 64).2.2 = 0
    · have u := uRes_least l h1
      rw [h1] at t1
      by_cases h2 : (sRes l 64).2.2 = 0
      · have s := sRes_least l h2
        rw [h2] at t3
        exact least_small_00 A l.length cap _ _ _ _ _ _ w hl hk t1 t3 (Lib.hid u.2) (Lib.hid rfl) u.1 (Lib.hid s.2) (Lib.hid rfl) s.1
      · exact least_small_01 A l.length cap _ _ _ _ _ _ w hl hk t1 t3 (Lib.hid u.2) (Lib.hid rfl) u.1 h2
    · by_cases h2 : (sRes l 64).2.2 = 0
      · have s := sRes_least l h2
        rw [h2] at t3
        exact least_small_10 A l.length cap _ _ _ _ _ _ w hl hk t1 t3 h1 (Lib.hid s.2) (Lib.hid rfl) s.1
      · exact least_small_11 A l.length cap _ _ _ _ _ _ w hl hk t1 t3 h1 h2
  · have e : (l.take 20).length = 20 := by simp; omega
    have t1 := told_U (hb.take 20) cap 64 (by omega) (by omega)
    have t3 := told_S (hb.take 20) cap 64 (by omega) (by omega)
    rw [e] at t1 t3
    by_cases h1 : (uRes (l.take 20) 64).2.2 = 0
    · have u := uRes_least (l.take 20) h1
      rw [h1] at t1
      by_cases h2 : (sRes (l.take 20) 64).2.2 = 0
      · have s := sRes_least (l.take 20) h2
        rw [h2] at t3
        exact least_great_00 A l.length cap _ _ _ _ _ _ w hl (by omega) t1 t3 (Lib.hid u.2) (Lib.hid rfl) u.1 (Lib.hid s.2) (Lib.hid rfl) s.1
      · exact least_great_01 A l.length cap _ _ _ _ _ _ w hl (by omega) t1 t3 (Lib.hid u.2) (Lib.hid rfl) u.1 h2
    · by_cases h2 : (sRes (l.take 20) 64).2.2 = 0
      · have s := sRes_least (l.take 20) h2
        rw [h2] at t3
        exact least_great_10 A l.length cap _ _ _ _ _ _ w hl (by omega) t1 t3 h1 (Lib.hid s.2) (Lib.hid rfl) s.1
      · exact least_great_11 A l.length cap _ _ _ _ _ _ w hl (by omega) t1 t3 h1 h2
end Go.Proofs.Ytjillijkbmncmaa.Leb
