/-
  trammellaw05.TypCut returns true, if typ's functions answer as the reference's do. Condition: that premise.
-/
import Derived.Test.YthhdbjpimjkekaaTypReadsLaw
import Derived.Test.YthhdbjpimjkekaaTypCutMath
namespace Go.Proofs.Ythhdbjpimjkekaa.Typ
open Go.RowKit Leb

section
variable (A A' : Option Addr) (len c m len' c' m' : Nat) (at' : Int) (w : World) (l l' : List Nat)
  (hm : min (len : Int) 300 = (m : Int)) (hmc : m ≤ c) (hm3 : m ≤ 300) (hl : l.length = m) (hm' : min (len' : Int) 300 = (m' : Int)) (hmc' : m' ≤ c') (hm3' : m' ≤ 300) (hl' : l'.length = m') (hs : Slc w A c l) (hs' : Slc w A' c' l')
  (HA : Hid (Calls Try.prog 7 #[] w fun e w' => e = .returned (.bool true) ∧ Below w.heap.size w w'))
include hm hmc hm3 hl hm' hmc' hm3' hl' hs hs' HA
set_option maxHeartbeats 4000000 in
set_option maxRecDepth 100000 in
theorem cut_err (er : Nat) (her : er ≠ 0) (HF : Hid (∀ W, Below w.heap.size w W → Calls Try.prog 8 #[.slice A m c] W (Func3 W ([], [], 0, er)))) :
    Calls Try.prog 6 #[.slice A len c, .slice A' len' c', .int .i64 at'] w fun e w' => e = .returned (.bool true) ∧ Below w.heap.size w w' := by
  have hne : ((er : Int) != 0) = true := by simp; omega
  have HL := Lib.hid hl
  have HL' := Lib.hid hl'
  have HS := Lib.hid hs
  have HS' := Lib.hid hs'
  clear hl hl' hs hs' her
  go_enter Try.func6, Try.ntmps6
  go_upto_region 3 with (go_at_call 7; refine HA.out.mono ?_; rintro e w1 ⟨rfl, hb1⟩)
  go_cut [0, 1] (fun s0 s1 wx => s0 = .slice A m c ∧ s1 = .slice A' m' c' ∧ Below w.heap.size w wx)
  case first =>
    by_cases hs : (len : Int) ≤ 300
    · obtain rfl : len = m := by omega
      by_cases hs' : (len' : Int) ≤ 300
      · obtain rfl : len' = m' := by omega
        go_region
        go_wp2
        go_meet
        exact ⟨rfl, rfl, hb1.drew⟩
      · obtain rfl : m' = 300 := by omega
        have hc3 : (300 : Int) ≤ (c' : Int) := by omega
        go_region
        go_wp2
        go_meet
        exact ⟨rfl, rfl, hb1.drew⟩
    · obtain rfl : m = 300 := by omega
      have hc3 : (300 : Int) ≤ (c : Int) := by omega
      by_cases hs' : (len' : Int) ≤ 300
      · obtain rfl : len' = m' := by omega
        go_region
        go_wp2
        go_meet
        exact ⟨rfl, rfl, hb1.drew⟩
      · obtain rfl : m' = 300 := by omega
        have hc3' : (300 : Int) ≤ (c' : Int) := by omega
        go_region
        go_wp2
        go_meet
        exact ⟨rfl, rfl, hb1.drew⟩
  case rest =>
    obtain ⟨rfl, rfl, hb2⟩ := hcut
    clear hm hm' HA
    go_wp2_with fail
    refine (HF.out _ hb2).mono ?_
    rintro e w2 ⟨v2, rfl, ft2, hb3⟩
    have hb4 := hb2.trans (hb3.mono hb2.size)
    obtain ⟨A1, k1, A2, k2, rfl, _, _, _, _, _, _⟩ := ft2
    simp only [List.length_nil]
    clear hb3 HF
    go_wp2
    go_ret
    exact ⟨rfl, hb4.alloc hb4.size _⟩
set_option maxHeartbeats 4000000 in
set_option maxRecDepth 100000 in
theorem cut_ok (ps rs : List Int) (n1 n2 n : Nat) (hn1 : ps.length = n1) (hn2 : rs.length = n2) (hl1 : n1 ≤ 8) (hl2 : n2 ≤ 8) (hnm : n ≤ m) (HF : Hid (∀ W, Below w.heap.size w W → Calls Try.prog 8 #[.slice A m c] W (Func3 W (ps, rs, n, 0))))
    (HF2 : Hid (∀ W A c, Below w.heap.size w W → Slc W A c (l ++ l') → Calls Try.prog 8 #[.slice A (m + m') c] W (Func3 W (ps, rs, n, 0))))
    (HF3 : Hid (∀ k : Nat, k < n → ∀ W, Below w.heap.size w W → Calls Try.prog 8 #[.slice A k c] W (Func3 W ([], [], 0, 1)))) :
    Calls Try.prog 6 #[.slice A len c, .slice A' len' c', .int .i64 at'] w fun e w' => e = .returned (.bool true) ∧ Below w.heap.size w w' := by
  have HL := Lib.hid hl
  have HL' := Lib.hid hl'
  have HS := Lib.hid hs
  have HS' := Lib.hid hs'
  have HN1 := Lib.hid hn1
  have HN2 := Lib.hid hn2
  have HC : Hid (∀ W, Below w.heap.size w W → Calls Try.prog 20 #[.slice A m c] W (GivesB W l m)) := Lib.hid fun W hW => by
    have := copy_any A l c W (hs.below hW).bytes hs.nil (by omega)
    rw [hl] at this
    exact gives_b this hs.bytes.1 hl
  clear hl hl' hs hs' hn1 hn2
  go_enter Try.func6, Try.ntmps6
  go_upto_region 3 with (go_at_call 7; refine HA.out.mono ?_; rintro e w1 ⟨rfl, hb1⟩)
  go_cut [0, 1] (fun s0 s1 wx => s0 = .slice A m c ∧ s1 = .slice A' m' c' ∧ Below w.heap.size w wx)
  case first =>
    by_cases hs : (len : Int) ≤ 300
    · obtain rfl : len = m := by omega
      by_cases hs' : (len' : Int) ≤ 300
      · obtain rfl : len' = m' := by omega
        go_region
        go_wp2
        go_meet
        exact ⟨rfl, rfl, hb1.drew⟩
      · obtain rfl : m' = 300 := by omega
        have hc3 : (300 : Int) ≤ (c' : Int) := by omega
        go_region
        go_wp2
        go_meet
        exact ⟨rfl, rfl, hb1.drew⟩
    · obtain rfl : m = 300 := by omega
      have hc3 : (300 : Int) ≤ (c : Int) := by omega
      by_cases hs' : (len' : Int) ≤ 300
      · obtain rfl : len' = m' := by omega
        go_region
        go_wp2
        go_meet
        exact ⟨rfl, rfl, hb1.drew⟩
      · obtain rfl : m' = 300 := by omega
        have hc3' : (300 : Int) ≤ (c' : Int) := by omega
        go_region
        go_wp2
        go_meet
        exact ⟨rfl, rfl, hb1.drew⟩
  case rest =>
    obtain ⟨rfl, rfl, hb2⟩ := hcut
    clear hm hm' HA
    go_wp2_with fail
    refine (HF.out _ hb2).mono ?_
    rintro e w2 ⟨v2, rfl, ft2, hb3⟩
    have hb4 := hb2.trans (hb3.mono hb2.size)
    have ft2' := ft2
    obtain ⟨A1, k1, A2, k2, rfl, _, _, _, _, _, _⟩ := ft2'
    rw [HN1.out, HN2.out] at ft2 ⊢
    have hba : Below w2.heap.size w2 (w2.alloc (.cells #[.slice A1 n1 k1, .slice A2 n2 k2] 26)) := (Below.refl _ _).alloc (Nat.le_refl _) _
    have hb5 := hb4.trans (hba.mono hb4.size)
    have FT3 := Lib.hid (ft2.below hba)
    have q0 : (w2.alloc (.cells #[.slice A1 n1 k1, .slice A2 n2 k2] 26)).cell? ⟨w2.heap.size, 0, none⟩ = some (.slice A1 n1 k1) := by simp
    have q1 : (w2.alloc (.cells #[.slice A1 n1 k1, .slice A2 n2 k2] 26)).cell? ⟨w2.heap.size, 1, none⟩ = some (.slice A2 n2 k2) := by simp
    have hz : w2.heap.size < (w2.alloc (.cells #[.slice A1 n1 k1, .slice A2 n2 k2] 26)).heap.size := by simp
    clear hb3 hb4 hba ft2 HF hb2
    go_wp2_with fail
    generalize w2.alloc _ = w3 at *
    refine (HC.out _ hb5).mono ?_
    rintro e w4 ⟨A4, c4, rfl, hown, hB4, hnil4, hc4, hb6⟩
    have hB' : Bytes w4 w.heap.size A' l' := HS'.out.bytes.below (hb5.trans (hb6.mono hb5.size))
    have hnil' := HS'.out.nil
    have hsz := hb6.size
    go_wp2_with (at_builtin; refine app_slice rfl (.tmp 47) (.tmp 48) rfl w3.heap.size _ l rfl hown HS.out.bytes.1 A' l' m' c' w.heap.size (m + m') HL'.out rfl hB' hnil' (by rw [List.length_append, HL.out, HL'.out]) (by omega) hsz ?_; intro A5 c5 w5 hown5 hB5 hc5 hn5 hb7)
    have hb8 := hb6.trans hb7
    have hb9 := hb5.trans (hb8.mono hb5.size)
    clear hB' hnil' hown hown5 hB4 hb6 hb7 HC hsz
    refine (HF2.out _ _ _ hb9 ⟨hB5, hn5, by rw [List.length_append, HL.out, HL'.out]; exact hc5⟩).mono ?_
    rintro e w6 ⟨v6, rfl, ft6, hb10⟩
    have ft6' := ft6
    obtain ⟨A6, k6, A7, k7, rfl, _, _, _, _, _, _⟩ := ft6'
    rw [HN1.out, HN2.out] at ft6 ⊢
    have hba : Below w6.heap.size w6 (w6.alloc (.cells #[.slice A6 n1 k6, .slice A7 n2 k7] 26)) := (Below.refl _ _).alloc (Nat.le_refl _) _
    have hb11 := hb10.trans (hba.mono hb10.size)
    have hb12 := hb8.trans (hb11.mono hb8.size)
    have hb13 := hb5.trans (hb12.mono hb5.size)
    have FT6 := Lib.hid (ft6.below hba)
    have FT1 := Lib.hid (FT3.out.below hb12)
    have p0 := (hb12.cell (p := ⟨w2.heap.size, 0, none⟩) hz).trans q0
    have p1 := (hb12.cell (p := ⟨w2.heap.size, 1, none⟩) hz).trans q1
    clear hba hb10 hb11 hb12 hb8 hb9 hb5 ft6 FT3 q0 q1 hz hB5
    go_wp2_with fail
    generalize w6.alloc _ = w7 at *
    refine (same_yes A1 A2 A6 A7 n1 n2 k1 k2 k6 k7 ps rs w7 HN1.out HN2.out FT1.out FT6.out (by omega) (by omega)).mono ?_
    rintro e w8 ⟨rfl, hb8⟩
    have hb9 := hb13.trans (hb8.mono hb13.size)
    have hgt : ¬ (m : Int) < (n : Int) := by omega
    clear hb13 hb8 p0 p1 FT6 FT1
    go_upto_region 10 with fail
    by_cases h0 : at' < 0
    · go_wp2
      go_ret
      exact ⟨rfl, hb9⟩
    · obtain ⟨k, rfl⟩ := Int.eq_ofNat_of_zero_le (show 0 ≤ at' by omega)
      by_cases hk : (n : Int) ≤ (k : Int)
      · go_wp2
        go_ret
        exact ⟨rfl, hb9⟩
      · have hkc : (k : Int) ≤ (c : Int) := by omega
        go_wp2_with fail
        refine (HF3.out k (by omega) _ hb9).mono ?_
        rintro e w10 ⟨v10, rfl, ft10, hb10⟩
        have hb11 := hb9.trans (hb10.mono hb9.size)
        clear hb9 hb10 ft10
        go_wp2
        go_ret
        exact ⟨rfl, hb11⟩
end
theorem cut_law {T : World → Prop} (D : Does T) (A A' : Option Addr) (l0 l0' : List Nat) (c c' : Nat) (at' : Int) (w : World) (hT : T w) (hs0 : Slc w A c l0) (hs0' : Slc w A' c' l0') :
    Calls Try.prog 6 #[.slice A l0.length c, .slice A' l0'.length c', .int .i64 at'] w fun e w' => e = .returned (.bool true) ∧ Below w.heap.size w w' := by
  obtain ⟨l, hl⟩ : ∃ l, l = l0.take 300 := ⟨_, rfl⟩
  have hs : Slc w A c l := by rw [hl]; exact hs0.take 300
  have hlen : min (l0.length : Int) 300 = (l.length : Int) := by rw [hl, List.length_take]; omega
  have hl300 : l.length ≤ 300 := by rw [hl, List.length_take]; omega
  obtain ⟨l', hl'⟩ : ∃ l', l' = l0'.take 300 := ⟨_, rfl⟩
  have hs' : Slc w A' c' l' := by rw [hl']; exact hs0'.take 300
  have hlen' : min (l0'.length : Int) 300 = (l'.length : Int) := by rw [hl', List.length_take]; omega
  have hl300' : l'.length ≤ 300 := by rw [hl', List.length_take]; omega
  have HA := Lib.hid (awake_any D w hT)
  have HF := Lib.hid (fun W (hW : Below w.heap.size w W) => D.func A l c W (hs.below hW) (by omega) (D.keep _ _ hT hW))
  by_cases he : (funcRes l).2.2.2 = 0
  · obtain ⟨ps, rs, n, hfr⟩ : ∃ ps rs n, funcRes l = (ps, rs, n, 0) := ⟨(funcRes l).1, (funcRes l).2.1, (funcRes l).2.2.1, by rw [← he]⟩
    have h8 := funcRes_short l
    have hn := (funcRes_is hfr).2.2
    obtain ⟨q, _, _, _, _, hnl⟩ := hn
    rw [hfr] at HF h8
    refine cut_ok A A' l0.length c l.length l0'.length c' l'.length at' w l l' hlen hs.room hl300 rfl hlen' hs'.room hl300' rfl hs hs' HA ps rs _ _ n rfl rfl h8.1 h8.2 hnl HF (Lib.hid fun W A c hW hS => ?_) (Lib.hid fun k hk W hW => ?_)
    · have := D.func A _ c W hS (by rw [List.length_append]; omega) (D.keep _ _ hT hW)
      rw [funcRes_app hfr l', List.length_append] at this
      exact this
    · have h2 := (hs.take k).below hW
      have hlk : (l.take k).length = k := by rw [List.length_take]; omega
      have := D.func A (l.take k) c W h2 (by omega) (D.keep _ _ hT hW)
      rw [funcRes_cut hfr k hk, hlk] at this
      exact this
  · have hfr := funcRes_err l he
    rw [hfr] at HF
    exact cut_err A A' l0.length c l.length l0'.length c' l'.length at' w l l' hlen hs.room hl300 rfl hlen' hs'.room hl300' rfl hs hs' HA _ he HF
end Go.Proofs.Ythhdbjpimjkekaa.Typ
