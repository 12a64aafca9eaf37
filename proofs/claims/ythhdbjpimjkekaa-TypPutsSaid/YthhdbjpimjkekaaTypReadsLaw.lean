/-
  trammellaw05.TypReads returns true, if typ's functions answer as the reference's do. Condition: that premise.
-/
import Derived.Test.YthhdbjpimjkekaaTypDoes
import Derived.Deep.DeepCutAuto
namespace Go.Proofs.Ythhdbjpimjkekaa.Typ
open Go.RowKit Leb

theorem FType.below {w w' : World} {v : Value} {ps rs : List Int} (h : FType w v ps rs) (hb : Below w.heap.size w w') : FType w' v ps rs := by
  obtain ⟨A, c, A', c', rfl, i1, i2, h1, h2, h3, h4⟩ := h
  exact ⟨A, c, A', c', rfl, (i1.below hb).more hb.size, (i2.below hb).more hb.size, h1, h2, h3, h4⟩
theorem below_al {w w1 : World} (h : Below w.heap.size w w1) (o : Obj) : Below w.heap.size w (w1.alloc o) := h.alloc h.size o
/-- The same type twice: Same says so. -/
theorem same_yes (A1 A2 A3 A4 : Option Addr) (n1 n2 c1 c2 c3 c4 : Nat) (ps rs : List Int) (w : World) (h1 : ps.length = n1) (h2 : rs.length = n2) (h : FType w (.agg #[.slice A1 n1 c1, .slice A2 n2 c2]) ps rs) (h' : FType w (.agg #[.slice A3 n1 c3, .slice A4 n2 c4]) ps rs) (l1 : n1 ≤ 1000) (l2 : n2 ≤ 1000) :
    Calls Try.prog 10 #[.agg #[.slice A1 n1 c1, .slice A2 n2 c2], .agg #[.slice A3 n1 c3, .slice A4 n2 c4]] w fun e w' => e = .returned (.bool true) ∧ Below w.heap.size w w' := by
  have := rsame_any _ _ ps rs ps rs w h h' (by omega) (by omega) (by omega) (by omega)
  simpa using this
section
variable (A : Option Addr) (len c m : Nat) (w : World) (hm : min (len : Int) 300 = (m : Int)) (hmc : m ≤ c) (ps rs : List Int) (n1 n2 a b p1 e1 p2 e2 p3 e3 : Nat) (cap : Bool) (bt : Int) (hn1 : ps.length = n1) (hn2 : rs.length = n2) (hl1 : n1 ≤ 8) (hl2 : n2 ≤ 8)
  (HA : Hid (Calls Try.prog 7 #[] w fun e w' => e = .returned (.bool true) ∧ Below w.heap.size w w'))
  (HF : Hid (∀ W, Below w.heap.size w W → Calls Try.prog 8 #[.slice A m c] W (Func3 W (ps, rs, p1, e1)))) (HRF : Hid (∀ W, Below w.heap.size w W → Calls Try.prog 9 #[.slice A m c] W (Func3 W (ps, rs, p1, e1))))
  (HL : Hid (∀ W, Below w.heap.size w W → Calls Try.prog 11 #[.slice A m c] W (Lim3 W a cap b p2 e2))) (HRL : Hid (∀ W, Below w.heap.size w W → Calls Try.prog 12 #[.slice A m c] W (Lim3 W a cap b p2 e2)))
  (HB : Hid (∀ W, Below w.heap.size w W → Calls Try.prog 13 #[.slice A m c] W (Block3 W (bt, p3, e3)))) (HRB : Hid (∀ W, Below w.heap.size w W → Calls Try.prog 14 #[.slice A m c] W (Block3 W (bt, p3, e3))))
include hm hmc hn1 hn2 hl1 hl2 HA HF HRF HL HRL HB HRB
set_option maxHeartbeats 4000000 in
set_option maxRecDepth 100000 in
theorem reads_0 (hm0 : m = 0) (HV : Hid (∀ W, Below w.heap.size w W → Calls Try.prog 15 #[.slice A m c] W (Val3 W (0, 0, 1)))) :
    Calls Try.prog 3 #[.slice A len c] w fun e w' => e = .returned (.bool true) ∧ Below w.heap.size w w' := by
  subst hm0
  have HN1 := Lib.hid hn1
  have HN2 := Lib.hid hn2
  clear hn1 hn2
  go_enter Try.func3, Try.ntmps3
  go_upto_region 3 with (go_at_call 7; refine HA.out.mono ?_; rintro e w1 ⟨rfl, hb1⟩)
  go_cut [0] (fun s0 wx => s0 = .slice A 0 c ∧ wx = w1)
  case first =>
    by_cases hs : (len : Int) ≤ 300
    · obtain rfl : len = 0 := by omega
      go_wp2
      go_meet
      exact ⟨rfl, rfl⟩
    · omega
  case rest =>
    obtain ⟨rfl, rfl⟩ := hcut
    clear hm HA
    go_wp2_with fail
    refine (HF.out _ hb1).mono ?_
    rintro e w2 ⟨v2, rfl, ft2, hb2⟩
    have hb3 := hb1.trans (hb2.mono hb1.size)
    have ft2' := ft2
    obtain ⟨A1, k1, A2, k2, rfl, _, _, _, _, _, _⟩ := ft2'
    rw [HN1.out, HN2.out] at ft2 ⊢
    have hba : Below w2.heap.size w2 (w2.alloc (.cells #[.slice A1 n1 k1, .slice A2 n2 k2] 26)) := (Below.refl _ _).alloc (Nat.le_refl _) _
    have hb4 := hb3.trans (hba.mono hb3.size)
    have ft3 := ft2.below hba
    have q0 : (w2.alloc (.cells #[.slice A1 n1 k1, .slice A2 n2 k2] 26)).cell? ⟨w2.heap.size, 0, none⟩ = some (.slice A1 n1 k1) := by simp
    have q1 : (w2.alloc (.cells #[.slice A1 n1 k1, .slice A2 n2 k2] 26)).cell? ⟨w2.heap.size, 1, none⟩ = some (.slice A2 n2 k2) := by simp
    have hz : w2.heap.size < (w2.alloc (.cells #[.slice A1 n1 k1, .slice A2 n2 k2] 26)).heap.size := by simp
    have FT3 := Lib.hid ft3
    clear hb2 hb3 hba ft2 ft3 HF
    go_wp2_with fail
    generalize w2.alloc _ = w3 at *
    refine (HRF.out _ hb4).mono ?_
    rintro e w4 ⟨v4, rfl, ft4, hb5⟩
    have hb6 := hb4.trans (hb5.mono hb4.size)
    have ft4' := ft4
    obtain ⟨A3, k3, A4, k4, rfl, _, _, _, _, _, _⟩ := ft4'
    rw [HN1.out, HN2.out] at ft4 ⊢
    have hba : Below w4.heap.size w4 (w4.alloc (.cells #[.slice A3 n1 k3, .slice A4 n2 k4] 26)) := (Below.refl _ _).alloc (Nat.le_refl _) _
    have hb7 := hb6.trans (hba.mono hb6.size)
    have hb8 := hb5.trans (hba.mono hb5.size)
    have FT5 := Lib.hid (ft4.below hba)
    have FT4 := Lib.hid (FT3.out.below hb8)
    have q2 := (hb8.cell (p := ⟨w2.heap.size, 0, none⟩) hz).trans q0
    have q3 := (hb8.cell (p := ⟨w2.heap.size, 1, none⟩) hz).trans q1
    clear hb5 hb6 hb4 hba ft4 FT3 HRF q0 q1 hz hb8
    go_wp2_with fail
    generalize w4.alloc _ = w5 at *
    refine (same_yes A1 A2 A3 A4 n1 n2 k1 k2 k3 k4 ps rs w5 HN1.out HN2.out FT4.out FT5.out (by omega) (by omega)).mono ?_
    rintro e w6 ⟨rfl, hb5⟩
    have hb4 := hb7.trans (hb5.mono hb7.size)
    clear hb5 hb7 FT4 FT5 q2 q3
    go_wp2_with fail
    refine (HL.out _ hb4).mono ?_
    rintro e w7 ⟨rfl, hb5⟩
    unfold limV
    have hb6 := hb4.trans (hb5.mono hb4.size)
    have hb7 := below_al hb6 (.cells #[.int .i64 (a : Int), .bool cap, .int .i64 (b : Int)] 34)
    have q0 : (w7.alloc (.cells #[.int .i64 (a : Int), .bool cap, .int .i64 (b : Int)] 34)).cell? ⟨w7.heap.size, 0, none⟩ = some (.int .i64 (a : Int)) := by simp
    have q1 : (w7.alloc (.cells #[.int .i64 (a : Int), .bool cap, .int .i64 (b : Int)] 34)).cell? ⟨w7.heap.size, 1, none⟩ = some (.bool cap) := by simp
    have q2 : (w7.alloc (.cells #[.int .i64 (a : Int), .bool cap, .int .i64 (b : Int)] 34)).cell? ⟨w7.heap.size, 2, none⟩ = some (.int .i64 (b : Int)) := by simp
    have hz : w7.heap.size < (w7.alloc (.cells #[.int .i64 (a : Int), .bool cap, .int .i64 (b : Int)] 34)).heap.size := by simp
    clear hb4 hb5 hb6 HL
    go_wp2_with fail
    generalize w7.alloc _ = w8 at *
    refine (HRL.out _ hb7).mono ?_
    rintro e w9 ⟨rfl, hb5⟩
    unfold limV
    have hb6 := hb7.trans (hb5.mono hb7.size)
    have hb8 := below_al hb6 (.cells #[.int .i64 (a : Int), .bool cap, .int .i64 (b : Int)] 34)
    have hb9 := below_al hb5 (.cells #[.int .i64 (a : Int), .bool cap, .int .i64 (b : Int)] 34)
    have q3 := (hb9.cell (p := ⟨w7.heap.size, 0, none⟩) hz).trans q0
    have q4 := (hb9.cell (p := ⟨w7.heap.size, 1, none⟩) hz).trans q1
    have q5 := (hb9.cell (p := ⟨w7.heap.size, 2, none⟩) hz).trans q2
    clear hb5 hb6 hb7 HRL q0 q1 q2 hz hb9
    go_wp2_with fail
    clear q3 q4 q5
    generalize w9.alloc _ = w8 at *
    refine (HB.out _ hb8).mono ?_
    rintro e w10 ⟨rfl, hb5⟩
    have hb6 := hb8.trans (hb5.mono hb8.size)
    clear hb5 hb8 HB
    go_wp2_with fail
    refine (HRB.out _ hb6).mono ?_
    rintro e w11 ⟨rfl, hb5⟩
    have hb7 := hb6.trans (hb5.mono hb6.size)
    clear hb5 hb6 HRB
    go_wp2_with fail
    refine (HV.out _ hb7).mono ?_
    rintro e w12 ⟨rfl, hb5⟩
    have hb9 := hb7.trans (hb5.mono hb7.size)
    clear hb5 hb7 HV
    go_wp2
    go_ret
    exact ⟨rfl, hb9⟩
set_option maxHeartbeats 4000000 in
set_option maxRecDepth 100000 in
theorem reads_ok (b0 off x : Nat) (hA : A = some ⟨b0, off, none⟩) (hm1 : 1 ≤ m) (hb0 : b0 < w.heap.size) (hx : w.cell? ⟨b0, off, none⟩ = some (.int .u8 (x : Int))) (HV : Hid (∀ W, Below w.heap.size w W → Calls Try.prog 15 #[.slice A m c] W (Val3 W (x, 1, 0)))) (HRV : Hid (∀ W, Calls Try.prog 16 #[.int .u8 (x : Int)] W (Val2 W (x, 0)))) :
    Calls Try.prog 3 #[.slice A len c] w fun e w' => e = .returned (.bool true) ∧ Below w.heap.size w w' := by
  subst hA
  have hmne : ((m : Int) == 0) = false := by simp; omega
  have HN1 := Lib.hid hn1
  have HN2 := Lib.hid hn2
  clear hn1 hn2
  go_enter Try.func3, Try.ntmps3
  go_upto_region 3 with (go_at_call 7; refine HA.out.mono ?_; rintro e w1 ⟨rfl, hb1⟩)
  go_cut [0] (fun s0 wx => s0 = .slice (some ⟨b0, off, none⟩) m c ∧ wx = w1)
  case first =>
    by_cases hs : (len : Int) ≤ 300
    · obtain rfl : len = m := by omega
      go_wp2
      go_meet
      exact ⟨rfl, rfl⟩
    · obtain rfl : m = 300 := by omega
      have hc3 : (300 : Int) ≤ (c : Int) := by omega
      go_wp2
      go_meet
      exact ⟨rfl, rfl⟩
  case rest =>
    obtain ⟨rfl, rfl⟩ := hcut
    clear hm HA
    go_wp2_with fail
    refine (HF.out _ hb1).mono ?_
    rintro e w2 ⟨v2, rfl, ft2, hb2⟩
    have hb3 := hb1.trans (hb2.mono hb1.size)
    have ft2' := ft2
    obtain ⟨A1, k1, A2, k2, rfl, _, _, _, _, _, _⟩ := ft2'
    rw [HN1.out, HN2.out] at ft2 ⊢
    have hba : Below w2.heap.size w2 (w2.alloc (.cells #[.slice A1 n1 k1, .slice A2 n2 k2] 26)) := (Below.refl _ _).alloc (Nat.le_refl _) _
    have hb4 := hb3.trans (hba.mono hb3.size)
    have ft3 := ft2.below hba
    have q0 : (w2.alloc (.cells #[.slice A1 n1 k1, .slice A2 n2 k2] 26)).cell? ⟨w2.heap.size, 0, none⟩ = some (.slice A1 n1 k1) := by simp
    have q1 : (w2.alloc (.cells #[.slice A1 n1 k1, .slice A2 n2 k2] 26)).cell? ⟨w2.heap.size, 1, none⟩ = some (.slice A2 n2 k2) := by simp
    have hz : w2.heap.size < (w2.alloc (.cells #[.slice A1 n1 k1, .slice A2 n2 k2] 26)).heap.size := by simp
    have FT3 := Lib.hid ft3
    clear hb2 hb3 hba ft2 ft3 HF
    go_wp2_with fail
    generalize w2.alloc _ = w3 at *
    refine (HRF.out _ hb4).mono ?_
    rintro e w4 ⟨v4, rfl, ft4, hb5⟩
    have hb6 := hb4.trans (hb5.mono hb4.size)
    have ft4' := ft4
    obtain ⟨A3, k3, A4, k4, rfl, _, _, _, _, _, _⟩ := ft4'
    rw [HN1.out, HN2.out] at ft4 ⊢
    have hba : Below w4.heap.size w4 (w4.alloc (.cells #[.slice A3 n1 k3, .slice A4 n2 k4] 26)) := (Below.refl _ _).alloc (Nat.le_refl _) _
    have hb7 := hb6.trans (hba.mono hb6.size)
    have hb8 := hb5.trans (hba.mono hb5.size)
    have FT5 := Lib.hid (ft4.below hba)
    have FT4 := Lib.hid (FT3.out.below hb8)
    have q2 := (hb8.cell (p := ⟨w2.heap.size, 0, none⟩) hz).trans q0
    have q3 := (hb8.cell (p := ⟨w2.heap.size, 1, none⟩) hz).trans q1
    clear hb5 hb6 hb4 hba ft4 FT3 HRF q0 q1 hz hb8
    go_wp2_with fail
    generalize w4.alloc _ = w5 at *
    refine (same_yes A1 A2 A3 A4 n1 n2 k1 k2 k3 k4 ps rs w5 HN1.out HN2.out FT4.out FT5.out (by omega) (by omega)).mono ?_
    rintro e w6 ⟨rfl, hb5⟩
    have hb4 := hb7.trans (hb5.mono hb7.size)
    clear hb5 hb7 FT4 FT5 q2 q3
    go_wp2_with fail
    refine (HL.out _ hb4).mono ?_
    rintro e w7 ⟨rfl, hb5⟩
    unfold limV
    have hb6 := hb4.trans (hb5.mono hb4.size)
    have hb7 := below_al hb6 (.cells #[.int .i64 (a : Int), .bool cap, .int .i64 (b : Int)] 34)
    have q0 : (w7.alloc (.cells #[.int .i64 (a : Int), .bool cap, .int .i64 (b : Int)] 34)).cell? ⟨w7.heap.size, 0, none⟩ = some (.int .i64 (a : Int)) := by simp
    have q1 : (w7.alloc (.cells #[.int .i64 (a : Int), .bool cap, .int .i64 (b : Int)] 34)).cell? ⟨w7.heap.size, 1, none⟩ = some (.bool cap) := by simp
    have q2 : (w7.alloc (.cells #[.int .i64 (a : Int), .bool cap, .int .i64 (b : Int)] 34)).cell? ⟨w7.heap.size, 2, none⟩ = some (.int .i64 (b : Int)) := by simp
    have hz : w7.heap.size < (w7.alloc (.cells #[.int .i64 (a : Int), .bool cap, .int .i64 (b : Int)] 34)).heap.size := by simp
    clear hb4 hb5 hb6 HL
    go_wp2_with fail
    generalize w7.alloc _ = w8 at *
    refine (HRL.out _ hb7).mono ?_
    rintro e w9 ⟨rfl, hb5⟩
    unfold limV
    have hb6 := hb7.trans (hb5.mono hb7.size)
    have hb8 := below_al hb6 (.cells #[.int .i64 (a : Int), .bool cap, .int .i64 (b : Int)] 34)
    have hb9 := below_al hb5 (.cells #[.int .i64 (a : Int), .bool cap, .int .i64 (b : Int)] 34)
    have q3 := (hb9.cell (p := ⟨w7.heap.size, 0, none⟩) hz).trans q0
    have q4 := (hb9.cell (p := ⟨w7.heap.size, 1, none⟩) hz).trans q1
    have q5 := (hb9.cell (p := ⟨w7.heap.size, 2, none⟩) hz).trans q2
    clear hb5 hb6 hb7 HRL q0 q1 q2 hz hb9
    go_wp2_with fail
    clear q3 q4 q5
    generalize w9.alloc _ = w8 at *
    refine (HB.out _ hb8).mono ?_
    rintro e w10 ⟨rfl, hb5⟩
    have hb6 := hb8.trans (hb5.mono hb8.size)
    clear hb5 hb8 HB
    go_wp2_with fail
    refine (HRB.out _ hb6).mono ?_
    rintro e w11 ⟨rfl, hb5⟩
    have hb7 := hb6.trans (hb5.mono hb6.size)
    clear hb5 hb6 HRB
    go_wp2_with fail
    refine (HV.out _ hb7).mono ?_
    rintro e w12 ⟨rfl, hb5⟩
    have hb9 := hb7.trans (hb5.mono hb7.size)
    clear hb5 hb7 HV
    have hcx := (hb9.cell (p := ⟨b0, off, none⟩) hb0).trans hx
    go_wp2_with fail
    refine (HRV.out _).mono ?_
    rintro e w10 ⟨rfl, rfl⟩
    go_wp2
    go_ret
    exact ⟨rfl, hb9⟩
set_option maxHeartbeats 4000000 in
set_option maxRecDepth 100000 in
theorem reads_er (b0 off x er : Nat) (her : er ≠ 0) (hA : A = some ⟨b0, off, none⟩) (hm1 : 1 ≤ m) (hb0 : b0 < w.heap.size) (hx : w.cell? ⟨b0, off, none⟩ = some (.int .u8 (x : Int))) (HV : Hid (∀ W, Below w.heap.size w W → Calls Try.prog 15 #[.slice A m c] W (Val3 W (0, 0, er)))) (HRV : Hid (∀ W, Calls Try.prog 16 #[.int .u8 (x : Int)] W (Val2 W (0, er)))) :
    Calls Try.prog 3 #[.slice A len c] w fun e w' => e = .returned (.bool true) ∧ Below w.heap.size w w' := by
  subst hA
  have hmne : ((m : Int) == 0) = false := by simp; omega
  have hene : ((er : Int) == 0) = false := by simp; omega
  clear her
  have HN1 := Lib.hid hn1
  have HN2 := Lib.hid hn2
  clear hn1 hn2
  go_enter Try.func3, Try.ntmps3
  go_upto_region 3 with (go_at_call 7; refine HA.out.mono ?_; rintro e w1 ⟨rfl, hb1⟩)
  go_cut [0] (fun s0 wx => s0 = .slice (some ⟨b0, off, none⟩) m c ∧ wx = w1)
  case first =>
    by_cases hs : (len : Int) ≤ 300
    · obtain rfl : len = m := by omega
      go_wp2
      go_meet
      exact ⟨rfl, rfl⟩
    · obtain rfl : m = 300 := by omega
      have hc3 : (300 : Int) ≤ (c : Int) := by omega
      go_wp2
      go_meet
      exact ⟨rfl, rfl⟩
  case rest =>
    obtain ⟨rfl, rfl⟩ := hcut
    clear hm HA
    go_wp2_with fail
    refine (HF.out _ hb1).mono ?_
    rintro e w2 ⟨v2, rfl, ft2, hb2⟩
    have hb3 := hb1.trans (hb2.mono hb1.size)
    have ft2' := ft2
    obtain ⟨A1, k1, A2, k2, rfl, _, _, _, _, _, _⟩ := ft2'
    rw [HN1.out, HN2.out] at ft2 ⊢
    have hba : Below w2.heap.size w2 (w2.alloc (.cells #[.slice A1 n1 k1, .slice A2 n2 k2] 26)) := (Below.refl _ _).alloc (Nat.le_refl _) _
    have hb4 := hb3.trans (hba.mono hb3.size)
    have ft3 := ft2.below hba
    have q0 : (w2.alloc (.cells #[.slice A1 n1 k1, .slice A2 n2 k2] 26)).cell? ⟨w2.heap.size, 0, none⟩ = some (.slice A1 n1 k1) := by simp
    have q1 : (w2.alloc (.cells #[.slice A1 n1 k1, .slice A2 n2 k2] 26)).cell? ⟨w2.heap.size, 1, none⟩ = some (.slice A2 n2 k2) := by simp
    have hz : w2.heap.size < (w2.alloc (.cells #[.slice A1 n1 k1, .slice A2 n2 k2] 26)).heap.size := by simp
    have FT3 := Lib.hid ft3
    clear hb2 hb3 hba ft2 ft3 HF
    go_wp2_with fail
    generalize w2.alloc _ = w3 at *
    refine (HRF.out _ hb4).mono ?_
    rintro e w4 ⟨v4, rfl, ft4, hb5⟩
    have hb6 := hb4.trans (hb5.mono hb4.size)
    have ft4' := ft4
    obtain ⟨A3, k3, A4, k4, rfl, _, _, _, _, _, _⟩ := ft4'
    rw [HN1.out, HN2.out] at ft4 ⊢
    have hba : Below w4.heap.size w4 (w4.alloc (.cells #[.slice A3 n1 k3, .slice A4 n2 k4] 26)) := (Below.refl _ _).alloc (Nat.le_refl _) _
    have hb7 := hb6.trans (hba.mono hb6.size)
    have hb8 := hb5.trans (hba.mono hb5.size)
    have FT5 := Lib.hid (ft4.below hba)
    have FT4 := Lib.hid (FT3.out.below hb8)
    have q2 := (hb8.cell (p := ⟨w2.heap.size, 0, none⟩) hz).trans q0
    have q3 := (hb8.cell (p := ⟨w2.heap.size, 1, none⟩) hz).trans q1
    clear hb5 hb6 hb4 hba ft4 FT3 HRF q0 q1 hz hb8
    go_wp2_with fail
    generalize w4.alloc _ = w5 at *
    refine (same_yes A1 A2 A3 A4 n1 n2 k1 k2 k3 k4 ps rs w5 HN1.out HN2.out FT4.out FT5.out (by omega) (by omega)).mono ?_
    rintro e w6 ⟨rfl, hb5⟩
    have hb4 := hb7.trans (hb5.mono hb7.size)
    clear hb5 hb7 FT4 FT5 q2 q3
    go_wp2_with fail
    refine (HL.out _ hb4).mono ?_
    rintro e w7 ⟨rfl, hb5⟩
    unfold limV
    have hb6 := hb4.trans (hb5.mono hb4.size)
    have hb7 := below_al hb6 (.cells #[.int .i64 (a : Int), .bool cap, .int .i64 (b : Int)] 34)
    have q0 : (w7.alloc (.cells #[.int .i64 (a : Int), .bool cap, .int .i64 (b : Int)] 34)).cell? ⟨w7.heap.size, 0, none⟩ = some (.int .i64 (a : Int)) := by simp
    have q1 : (w7.alloc (.cells #[.int .i64 (a : Int), .bool cap, .int .i64 (b : Int)] 34)).cell? ⟨w7.heap.size, 1, none⟩ = some (.bool cap) := by simp
    have q2 : (w7.alloc (.cells #[.int .i64 (a : Int), .bool cap, .int .i64 (b : Int)] 34)).cell? ⟨w7.heap.size, 2, none⟩ = some (.int .i64 (b : Int)) := by simp
    have hz : w7.heap.size < (w7.alloc (.cells #[.int .i64 (a : Int), .bool cap, .int .i64 (b : Int)] 34)).heap.size := by simp
    clear hb4 hb5 hb6 HL
    go_wp2_with fail
    generalize w7.alloc _ = w8 at *
    refine (HRL.out _ hb7).mono ?_
    rintro e w9 ⟨rfl, hb5⟩
    unfold limV
    have hb6 := hb7.trans (hb5.mono hb7.size)
    have hb8 := below_al hb6 (.cells #[.int .i64 (a : Int), .bool cap, .int .i64 (b : Int)] 34)
    have hb9 := below_al hb5 (.cells #[.int .i64 (a : Int), .bool cap, .int .i64 (b : Int)] 34)
    have q3 := (hb9.cell (p := ⟨w7.heap.size, 0, none⟩) hz).trans q0
    have q4 := (hb9.cell (p := ⟨w7.heap.size, 1, none⟩) hz).trans q1
    have q5 := (hb9.cell (p := ⟨w7.heap.size, 2, none⟩) hz).trans q2
    clear hb5 hb6 hb7 HRL q0 q1 q2 hz hb9
    go_wp2_with fail
    clear q3 q4 q5
    generalize w9.alloc _ = w8 at *
    refine (HB.out _ hb8).mono ?_
    rintro e w10 ⟨rfl, hb5⟩
    have hb6 := hb8.trans (hb5.mono hb8.size)
    clear hb5 hb8 HB
    go_wp2_with fail
    refine (HRB.out _ hb6).mono ?_
    rintro e w11 ⟨rfl, hb5⟩
    have hb7 := hb6.trans (hb5.mono hb6.size)
    clear hb5 hb6 HRB
    go_wp2_with fail
    refine (HV.out _ hb7).mono ?_
    rintro e w12 ⟨rfl, hb5⟩
    have hb9 := hb7.trans (hb5.mono hb7.size)
    clear hb5 hb7 HV
    have hcx := (hb9.cell (p := ⟨b0, off, none⟩) hb0).trans hx
    go_wp2_with fail
    refine (HRV.out _).mono ?_
    rintro e w10 ⟨rfl, rfl⟩
    go_wp2
    go_ret
    exact ⟨rfl, hb9⟩
end
theorem funcRes_short (l : List Nat) : (funcRes l).1.length ≤ 8 ∧ (funcRes l).2.1.length ≤ 8 := by
  unfold funcRes
  by_cases h0 : l.length < 1
  · rw [if_pos h0]; simp
  rw [if_neg h0]
  split
  · simp
  · split
    · simp
    · rename_i h1
      have hok := valsRes_ok l 1 (by omega) (by omega)
      split
      · simp
      · rename_i h2
        have hok2 := valsRes_ok l _ hok.2.1 (by omega)
        exact ⟨hok.2.2.1, hok2.2.2.1⟩
theorem Slc.take {w : World} {A : Option Addr} {c : Nat} {l : List Nat} (h : Slc w A c l) (k : Nat) : Slc w A c (l.take k) := ⟨h.bytes.take k, h.nil, by have := h.room; simp; omega⟩
theorem Slc.at {w : World} {A : Option Addr} {c : Nat} {l : List Nat} (h : Slc w A c l) (hl : 1 ≤ l.length) : ∃ b off, A = some ⟨b, off, none⟩ ∧ b < w.heap.size ∧ w.cell? ⟨b, off, none⟩ = some (.int .u8 ((l.getD 0 0 : Nat) : Int)) := by
  obtain ⟨b, off, rfl, hb, hc⟩ := h.bytes.2 (by omega)
  have hd : l.getD 0 0 = l[0] := by simp [List.getD, List.getElem?_eq_getElem (show 0 < l.length by omega)]
  exact ⟨b, off, rfl, hb, by rw [hd]; exact hc 0 (by omega)⟩
theorem reads_law {T : World → Prop} (D : Does T) (A : Option Addr) (l0 : List Nat) (c : Nat) (w : World) (hT : T w) (hs0 : Slc w A c l0) :
    Calls Try.prog 3 #[.slice A l0.length c] w fun e w' => e = .returned (.bool true) ∧ Below w.heap.size w w' := by
  obtain ⟨l, hl⟩ : ∃ l, l = l0.take 300 := ⟨_, rfl⟩
  have hs : Slc w A c l := by rw [hl]; exact hs0.take 300
  have hlen : min (l0.length : Int) 300 = (l.length : Int) := by rw [hl, List.length_take]; omega
  have hl300 : l.length ≤ 300 := by rw [hl, List.length_take]; omega
  have hr := hs.room
  have HF := Lib.hid (fun W (hW : Below w.heap.size w W) => D.func A l c W (hs.below hW) (by omega) (D.keep _ _ hT hW))
  have HRF := Lib.hid (fun W (hW : Below w.heap.size w W) => rfunc_any A l c W (hs.below hW).bytes hr (by omega))
  have HL := Lib.hid (fun W (hW : Below w.heap.size w W) => D.limits A l c W (hs.below hW) (by omega) (D.keep _ _ hT hW))
  have HRL := Lib.hid (fun W (hW : Below w.heap.size w W) => rlim_any A l c W (hs.below hW).bytes hr (by omega))
  have HB := Lib.hid (fun W (hW : Below w.heap.size w W) => D.block A l c W (hs.below hW) (by omega) (D.keep _ _ hT hW))
  have HRB := Lib.hid (fun W (hW : Below w.heap.size w W) => rblock_any A l c W (hs.below hW).bytes)
  have HV := Lib.hid (fun W (hW : Below w.heap.size w W) => D.val A l c W (hs.below hW) (by omega) (D.keep _ _ hT hW))
  have hf8 := funcRes_short l
  have HA := Lib.hid (awake_any D w hT)
  by_cases h0 : l.length = 0
  · have hv : valRes l = (0, 0, 1) := by unfold valRes; rw [if_pos (by omega)]
    rw [hv] at HV
    exact reads_0 A l0.length c l.length w hlen hr _ _ _ _ _ _ _ _ _ _ _ _ _ _ rfl rfl hf8.1 hf8.2 HA HF HRF HL HRL HB HRB h0 HV
  · obtain ⟨b0, off, hA, hb0, hx⟩ := hs.at (by omega)
    have HRV := Lib.hid (fun W => val_any (l.getD 0 0) W)
    by_cases he : (valOf (l.getD 0 0)).2 = 0
    · have hv : valRes l = (l.getD 0 0, 1, 0) := by unfold valRes; rw [if_neg (by omega), if_pos he]
      have hvo : valOf (l.getD 0 0) = (l.getD 0 0, 0) := by
        rcases valOf_cases (l.getD 0 0) with h | h | h
        · exact h.1
        · rw [h] at he; simp at he
        · rw [h] at he; simp at he
      rw [hv] at HV
      rw [hvo] at HRV
      exact reads_ok A l0.length c l.length w hlen hr _ _ _ _ _ _ _ _ _ _ _ _ _ _ rfl rfl hf8.1 hf8.2 HA HF HRF HL HRL HB HRB b0 off _ hA (by omega) hb0 hx HV HRV
    · have hv : valRes l = (0, 0, (valOf (l.getD 0 0)).2) := by unfold valRes; rw [if_neg (by omega), if_neg he]
      have hvo : valOf (l.getD 0 0) = (0, (valOf (l.getD 0 0)).2) := by
        rcases valOf_cases (l.getD 0 0) with h | h | h
        · rw [h.1] at he; simp at he
        · rw [h]
        · rw [h]
      rw [hv] at HV
      rw [hvo] at HRV
      exact reads_er A l0.length c l.length w hlen hr _ _ _ _ _ _ _ _ _ _ _ _ _ _ rfl rfl hf8.1 hf8.2 HA HF HRF HL HRL HB HRB b0 off _ _ he hA (by omega) hb0 hx HV HRV
end Go.Proofs.Ythhdbjpimjkekaa.Typ
