/-
  InsRFormed: trammelref06.Formed: what it answers is formedB. Conditions: numbers of 64 bits; at most 100 labels.
  InsRFmd: trammelref06.Formed at any instruction: formedB. Conditions: numbers of 64 bits; at most 100 labels.
  InsRClosed: trammelref06.Closed: what it answers is shutB. Conditions: the slice leads to instructions, short.
-/
import Derived.Test.YtdipgokbfjbgfaaInsOne
import Derived.Test.YtdipgokbfjbgfaaInsLs
import Derived.Test.YtdipgokbfjbgfaaInsRAll
import Derived.Test.YtdipgokbfjbgfaaInsSame
import Derived.Test.YtdipgokbfjbgfaaTypAll
import Derived.Test.YtdipgokbfjbgfaaInsRBody
import Derived.Test.YtdipgokbfjbgfaaInsTop
namespace Go.Proofs.Ytdipgokbfjbgfaa.Ins
open Go.RowKit Leb Typ

theorem lit_int (w : World) (b : Int) : OwnI (w.alloc (.cells #[.int .i64 b] 3)) w.heap.size (.slice (some ⟨w.heap.size, 0, none⟩) 1 1) [b] :=
  World.ownsRow_lit w #[.int .i64 b] 1 (Nat.le_refl _) (by simp [maxLen]) rfl
section
variable (w : World) (op a b k : Int) (LA : Option Addr) (ln lc : Nat)
set_option maxHeartbeats 1000000 in
set_option maxRecDepth 100000 in
theorem rf_none (HP : Hid (∀ W, Calls Try.prog 27 #[.int .i64 op] W (PatIs W ⟨#[]⟩))) : Calls Try.prog 12 #[.agg #[.int .i64 op, .int .i64 a, .int .i64 b, .int .i64 k, .slice LA ln lc]] w (Tells w false) := by
  have HB := Lib.hid (b5_of (Below.refl w.heap.size w) op a b k LA ln lc 25)
  go_enter Try.func12, Try.ntmps12
  go_wp2_with fail
  refine (HP.out _).mono ?_
  rintro en w1 ⟨rfl, hb1⟩
  have HB1 := Lib.hid (HB.out.keep hb1)
  clear HP HB hb1
  obtain ⟨hbw, hz, d0, d1, d2, d3, d4⟩ := HB1.out
  go_wp2
  go_ret
  exact ⟨rfl, hbw⟩
set_option maxHeartbeats 1000000 in
set_option maxRecDepth 100000 in
theorem rf_wide (HP : Hid (∀ W, Calls Try.prog 27 #[.int .i64 op] W (PatIs W ⟨#[63]⟩))) : Calls Try.prog 12 #[.agg #[.int .i64 op, .int .i64 a, .int .i64 b, .int .i64 k, .slice LA ln lc]] w (Tells w false) := by
  have HB := Lib.hid (b5_of (Below.refl w.heap.size w) op a b k LA ln lc 25)
  go_enter Try.func12, Try.ntmps12
  go_wp2_with fail
  refine (HP.out _).mono ?_
  rintro en w1 ⟨rfl, hb1⟩
  have HB1 := Lib.hid (HB.out.keep hb1)
  clear HP HB hb1
  obtain ⟨hbw, hz, d0, d1, d2, d3, d4⟩ := HB1.out
  go_wp2
  go_ret
  exact ⟨rfl, hbw⟩
set_option maxHeartbeats 4000000 in
set_option maxRecDepth 100000 in
theorem rf_bare (xs : List Int) (hln : xs.length = ln) (hl100 : (ln : Int) ≤ 100) (k1 : ¬ op < 0) (k2 : ¬ 511 < op) (hi : Ints w w.heap.size LA xs) (hnil : LA = none → lc = 0) (hlc : ln ≤ lc) (bs : List Nat) (kb : Nat) (y : Ins) (q e : Nat) (R : Bool)
    (HP : Hid (∀ W, Calls Try.prog 27 #[.int .i64 op] W (PatIs W ⟨#[46]⟩)))
    (HF1 : Hid (¬ (∀ n ∈ b :: xs, fitsU n) → R = false)) (HF2 : Hid (¬ (fitsU a) → R = false))
    (HBY : Hid ((∀ n ∈ b :: xs, fitsU n) → fitsU a → ∀ W, Below w.heap.size w W → Calls Try.prog 16 #[.agg #[.int .i64 op, .int .i64 a, .int .i64 b, .int .i64 k, .slice LA ln lc]] W (GivesB W bs kb)))
    (HO : Hid (∀ A c W, Bytes W W.heap.size A bs → kb ≤ c → Calls Try.prog 29 #[.slice A kb c, .int .i64 0] W (OneW W (y, q, e))))
    (HF3 : Hid ((∀ n ∈ b :: xs, fitsU n) → fitsU a → (e ≠ 0 → R = false) ∧ (e = 0 → R = decide ((⟨op, a, b, k, xs⟩ : Ins) = y))))
    (HS : Hid (∀ W v v', InsV W v ⟨op, a, b, k, xs⟩ → InsV W v' y → Calls Try.prog 23 #[v, v'] W (Tells W (decide ((⟨op, a, b, k, xs⟩ : Ins) = y))))) :
    Calls Try.prog 12 #[.agg #[.int .i64 op, .int .i64 a, .int .i64 b, .int .i64 k, .slice LA ln lc]] w (Tells w R) := by
  have HB := Lib.hid (b5_of (Below.refl w.heap.size w) op a b k LA ln lc 25)
  have HI := Lib.hid (And.intro hi (And.intro hnil hlc))
  have HLN := Lib.hid hln
  clear hi hnil hlc hln
  go_enter Try.func12, Try.ntmps12
  go_wp2_with fail
  refine (HP.out _).mono ?_
  rintro en w1 ⟨rfl, hb1⟩
  have HB1 := Lib.hid (HB.out.keep hb1)
  have hlb : Below w1.heap.size w1 (w1.alloc (.cells #[.int .i64 b] 3)) := (Below.refl _ _).alloc (Nat.le_refl _) _
  have HX := Lib.hid (And.intro (lit_int w1 b) (And.intro ((HI.out.1.below HB1.out.below).below (hlb.mono HB1.out.below.size)) hlb.size))
  have HKP : Hid (∀ W, Below w1.heap.size (w1.alloc (.cells #[.int .i64 b] 3)) W → B5 w W w.heap.size op a b k LA ln lc) := Lib.hid fun W hW => (HB1.out.keep (hlb.trans hW))
  have hk101 : ([b] ++ xs).length = ln + 1 := by rw [List.length_append, HLN.out]; simp; omega
  have HK1 := Lib.hid hk101
  have hbound : ln + 1 ≤ 1000000 := by omega
  clear HP HB hb1 hlb hk101
  obtain ⟨hbw, hz, d0, d1, d2, d3, d4⟩ := HB1.out
  go_wp2_with (at_builtin; refine app_ints rfl (.tmp 30) (.tmp 32) rfl w1.heap.size _ [b] rfl HX.out.1 LA xs ln lc _ (ln + 1) HLN.out rfl HX.out.2.1 HI.out.2.1 HK1.out hbound HX.out.2.2 ?_; intro A4 c4 w4 hown4 hb4)
  have HB4 := Lib.hid (HKP.out w4 hb4)
  obtain ⟨A5, c5, hs5, hints, _, _⟩ := hown4.ints
  rw [HK1.out] at hs5
  simp only [Value.slice.injEq, true_and] at hs5
  obtain ⟨rfl, rfl⟩ := hs5
  have HI4 := Lib.hid hints
  clear HX HKP HB1 hbw hz d0 d1 d2 d3 d4 hown4 hb4 hints
  go_loopw [35] (fun x35 wr => ∃ j : Nat, j ≤ ln + 1 ∧ x35 = .int .i64 (j : Int) ∧ wr = w4 ∧ Hid (∀ n ∈ ([b] ++ xs).take j, fitsU n)) (fun i _ => ln + 1 - (intOf i).toNat)
  case atStart => exact ⟨0, Nat.zero_le _, by go_num, rfl, Lib.hid (by simp)⟩
  case round =>
    obtain ⟨j, hj, rfl, rfl, HJ⟩ := hrel
    have HW := Lib.hid HB4.out.below
    by_cases hjl : j < ln + 1
    · have hji : (j : Int) < ((ln + 1 : Nat) : Int) := by omega
      have hjx : j < ([b] ++ xs).length := by have := HK1.out; omega
      obtain ⟨bb, off, rfl, _, hc⟩ := HI4.out (by omega)
      have hcj := hc j hjx
      have hmem : ([b] ++ xs)[j] ∈ b :: xs := List.getElem_mem hjx
      have HNX : Hid (fitsU ([b] ++ xs)[j] → ∀ n ∈ ([b] ++ xs).take (j + 1), fitsU n) := Lib.hid fun hf => by
        rw [List.take_succ_eq_append_getElem hjx]
        intro n hn
        rcases List.mem_append.1 hn with h | h
        · exact HJ.out n h
        · rw [List.mem_singleton.1 h]; exact hf
      have HBD : Hid (¬ fitsU ([b] ++ xs)[j] → R = false) := Lib.hid fun hf => HF1.out fun h => hf (h _ hmem)
      clear hc HJ hmem
      generalize ([b] ++ xs)[j] = n at *
      by_cases hn0 : n < 0
      · have HE := Lib.hid (HBD.out (by unfold fitsU; omega))
        clear HNX HBD
        go_wp2
        go_ret
        rw [HE.out]
        exact ⟨rfl, HW.out⟩
      · by_cases hn1 : 4294967295 < n
        · have HE := Lib.hid (HBD.out (by unfold fitsU; omega))
          clear HNX HBD
          go_wp2
          go_ret
          rw [HE.out]
          exact ⟨rfl, HW.out⟩
        · have HJ2 := Lib.hid (HNX.out (by unfold fitsU; omega))
          clear HNX HBD
          go_wp2
          go_roundw
          case rel => exact ⟨j + 1, by omega, by go_num, by trivial, HJ2⟩
          case measure => simp [intOf]; omega
    · obtain rfl : j = ln + 1 := by omega
      have hji : ¬ ((ln + 1 : Nat) : Int) < ((ln + 1 : Nat) : Int) := by omega
      have hall : ∀ n ∈ b :: xs, fitsU n := by have := HJ.out; rw [List.take_of_length_le (by rw [HK1.out]; exact Nat.le_refl _)] at this; exact this
      have HALL := Lib.hid hall
      obtain ⟨hbw, hz, d0, d1, d2, d3, d4⟩ := HB4.out
      clear HJ hall HI4
      by_cases ha0 : a < 0
      · have HE := Lib.hid (HF2.out (by unfold fitsU; omega))
        clear HBY HO HF3 HS
        go_wp2
        go_ret
        rw [HE.out]
        exact ⟨rfl, HW.out⟩
      by_cases ha1 : 4294967295 < a
      · have HE := Lib.hid (HF2.out (by unfold fitsU; omega))
        clear HBY HO HF3 HS
        go_wp2
        go_ret
        rw [HE.out]
        exact ⟨rfl, HW.out⟩
      have HA : Hid (fitsU a) := Lib.hid (by unfold fitsU; omega)
      have HF := Lib.hid (HF3.out HALL.out HA.out)
      have HBB := Lib.hid (HBY.out HALL.out HA.out)
      have hbw4 := HB4.out.below
      clear HBY HF3
      go_wp2_with fail
      refine (HBB.out _ HW.out).mono ?_
      rintro en w5 ⟨A5, c5, rfl, hown5, hB5, hn5, hc5, hb5⟩
      have HB5 := Lib.hid (HB4.out.keep hb5)
      clear HBB hown5 hb5 hbw hz d0 d1 d2 d3 d4 hbw4
      go_wp2_with fail
      refine (HO.out _ _ _ hB5 hc5).mono ?_
      rintro en w6 ⟨A6, c6, n6, hn6, rfl, hown6, hb6⟩
      have hb7 : Below w5.heap.size w5 (w6.alloc (.cells #[.int .i64 y.op, .int .i64 y.a, .int .i64 y.b, .int .i64 y.k, .slice A6 n6 c6] 25)) := hb6.alloc hb6.size _
      have HB7 := Lib.hid (HB5.out.keep hb7)
      have HV7 : Hid (InsV (w6.alloc (.cells #[.int .i64 y.op, .int .i64 y.a, .int .i64 y.b, .int .i64 y.k, .slice A6 n6 c6] 25)) (.agg #[.int .i64 y.op, .int .i64 y.a, .int .i64 y.b, .int .i64 y.k, .slice A6 n6 c6]) y) := Lib.hid (by
        obtain ⟨A8, c8, h8, hi8, hl8, hn8⟩ := hown6.ints
        simp only [Value.slice.injEq] at h8
        obtain ⟨rfl, rfl, rfl⟩ := h8
        exact InsV.below ⟨_, _, rfl, hi8, hl8, hn8⟩ ((Below.refl _ _).alloc (Nat.le_refl _) _))
      have HX7 : Hid (InsV (w6.alloc (.cells #[.int .i64 y.op, .int .i64 y.a, .int .i64 y.b, .int .i64 y.k, .slice A6 n6 c6] 25)) (.agg #[.int .i64 op, .int .i64 a, .int .i64 b, .int .i64 k, .slice LA ln lc]) ⟨op, a, b, k, xs⟩) := Lib.hid (InsV.below ⟨LA, lc, by rw [HLN.out], HI.out.1, by simp only; rw [HLN.out]; exact HI.out.2.2, HI.out.2.1⟩ HB7.out.below)
      have HW7 := Lib.hid HB7.out.below
      clear hb6 hb7 hown6 hn6 HB5 HO HI HLN
      obtain ⟨_, _, d0, d1, d2, d3, d4⟩ := HB7.out
      by_cases he : e = 0
      · subst he
        have HE := Lib.hid (HF.out.2 rfl)
        clear HF
        go_wp2_with fail
        refine (HS.out _ _ _ HX7.out HV7.out).mono ?_
        rintro en w8 ⟨rfl, hb8⟩
        have HW8 := Lib.hid (HW7.out.trans (hb8.mono HW7.out.size))
        clear HS hb8 HX7 HV7 d0 d1 d2 d3 d4
        generalize decide ((⟨op, a, b, k, xs⟩ : Ins) = y) = rb at *
        go_wp2
        go_ret
        rw [HE.out]
        exact ⟨rfl, HW8.out⟩
      · have HE := Lib.hid (HF.out.1 he)
        have hne : ((e : Int) == 0) = false := by simp; omega
        clear HF HS HX7 HV7
        go_wp2
        go_ret
        rw [HE.out]
        exact ⟨rfl, HW7.out⟩
set_option maxHeartbeats 4000000 in
set_option maxRecDepth 100000 in
theorem rf_t (xs : List Int) (hln : xs.length = ln) (hl100 : (ln : Int) ≤ 100) (k1 : ¬ op < 0) (k2 : ¬ 511 < op) (hi : Ints w w.heap.size LA xs) (hnil : LA = none → lc = 0) (hlc : ln ≤ lc) (bs : List Nat) (kb : Nat) (y : Ins) (q e : Nat) (R : Bool)
    (HP : Hid (∀ W, Calls Try.prog 27 #[.int .i64 op] W (PatIs W ⟨#[116]⟩)))
    (HF1 : Hid (¬ (∀ n ∈ b :: xs, fitsU n) → R = false)) (HF2 : Hid (¬ (rightBlock a = true) → R = false)) (HRB : Hid (∀ W, Calls Try.prog 28 #[.int .i64 a] W (Bool1 W (rightBlock a))))
    (HBY : Hid ((∀ n ∈ b :: xs, fitsU n) → rightBlock a = true → ∀ W, Below w.heap.size w W → Calls Try.prog 16 #[.agg #[.int .i64 op, .int .i64 a, .int .i64 b, .int .i64 k, .slice LA ln lc]] W (GivesB W bs kb)))
    (HO : Hid (∀ A c W, Bytes W W.heap.size A bs → kb ≤ c → Calls Try.prog 29 #[.slice A kb c, .int .i64 0] W (OneW W (y, q, e))))
    (HF3 : Hid ((∀ n ∈ b :: xs, fitsU n) → rightBlock a = true → (e ≠ 0 → R = false) ∧ (e = 0 → R = decide ((⟨op, a, b, k, xs⟩ : Ins) = y))))
    (HS : Hid (∀ W v v', InsV W v ⟨op, a, b, k, xs⟩ → InsV W v' y → Calls Try.prog 23 #[v, v'] W (Tells W (decide ((⟨op, a, b, k, xs⟩ : Ins) = y))))) :
    Calls Try.prog 12 #[.agg #[.int .i64 op, .int .i64 a, .int .i64 b, .int .i64 k, .slice LA ln lc]] w (Tells w R) := by
  have HB := Lib.hid (b5_of (Below.refl w.heap.size w) op a b k LA ln lc 25)
  have HI := Lib.hid (And.intro hi (And.intro hnil hlc))
  have HLN := Lib.hid hln
  clear hi hnil hlc hln
  go_enter Try.func12, Try.ntmps12
  go_wp2_with fail
  refine (HP.out _).mono ?_
  rintro en w1 ⟨rfl, hb1⟩
  have HB1 := Lib.hid (HB.out.keep hb1)
  have hlb : Below w1.heap.size w1 (w1.alloc (.cells #[.int .i64 b] 3)) := (Below.refl _ _).alloc (Nat.le_refl _) _
  have HX := Lib.hid (And.intro (lit_int w1 b) (And.intro ((HI.out.1.below HB1.out.below).below (hlb.mono HB1.out.below.size)) hlb.size))
  have HKP : Hid (∀ W, Below w1.heap.size (w1.alloc (.cells #[.int .i64 b] 3)) W → B5 w W w.heap.size op a b k LA ln lc) := Lib.hid fun W hW => (HB1.out.keep (hlb.trans hW))
  have hk101 : ([b] ++ xs).length = ln + 1 := by rw [List.length_append, HLN.out]; simp; omega
  have HK1 := Lib.hid hk101
  have hbound : ln + 1 ≤ 1000000 := by omega
  clear HP HB hb1 hlb hk101
  obtain ⟨hbw, hz, d0, d1, d2, d3, d4⟩ := HB1.out
  go_wp2_with (at_builtin; refine app_ints rfl (.tmp 30) (.tmp 32) rfl w1.heap.size _ [b] rfl HX.out.1 LA xs ln lc _ (ln + 1) HLN.out rfl HX.out.2.1 HI.out.2.1 HK1.out hbound HX.out.2.2 ?_; intro A4 c4 w4 hown4 hb4)
  have HB4 := Lib.hid (HKP.out w4 hb4)
  obtain ⟨A5, c5, hs5, hints, _, _⟩ := hown4.ints
  rw [HK1.out] at hs5
  simp only [Value.slice.injEq, true_and] at hs5
  obtain ⟨rfl, rfl⟩ := hs5
  have HI4 := Lib.hid hints
  clear HX HKP HB1 hbw hz d0 d1 d2 d3 d4 hown4 hb4 hints
  go_loopw [35] (fun x35 wr => ∃ j : Nat, j ≤ ln + 1 ∧ x35 = .int .i64 (j : Int) ∧ wr = w4 ∧ Hid (∀ n ∈ ([b] ++ xs).take j, fitsU n)) (fun i _ => ln + 1 - (intOf i).toNat)
  case atStart => exact ⟨0, Nat.zero_le _, by go_num, rfl, Lib.hid (by simp)⟩
  case round =>
    obtain ⟨j, hj, rfl, rfl, HJ⟩ := hrel
    have HW := Lib.hid HB4.out.below
    by_cases hjl : j < ln + 1
    · have hji : (j : Int) < ((ln + 1 : Nat) : Int) := by omega
      have hjx : j < ([b] ++ xs).length := by have := HK1.out; omega
      obtain ⟨bb, off, rfl, _, hc⟩ := HI4.out (by omega)
      have hcj := hc j hjx
      have hmem : ([b] ++ xs)[j] ∈ b :: xs := List.getElem_mem hjx
      have HNX : Hid (fitsU ([b] ++ xs)[j] → ∀ n ∈ ([b] ++ xs).take (j + 1), fitsU n) := Lib.hid fun hf => by
        rw [List.take_succ_eq_append_getElem hjx]
        intro n hn
        rcases List.mem_append.1 hn with h | h
        · exact HJ.out n h
        · rw [List.mem_singleton.1 h]; exact hf
      have HBD : Hid (¬ fitsU ([b] ++ xs)[j] → R = false) := Lib.hid fun hf => HF1.out fun h => hf (h _ hmem)
      clear hc HJ hmem
      generalize ([b] ++ xs)[j] = n at *
      by_cases hn0 : n < 0
      · have HE := Lib.hid (HBD.out (by unfold fitsU; omega))
        clear HNX HBD
        go_wp2
        go_ret
        rw [HE.out]
        exact ⟨rfl, HW.out⟩
      · by_cases hn1 : 4294967295 < n
        · have HE := Lib.hid (HBD.out (by unfold fitsU; omega))
          clear HNX HBD
          go_wp2
          go_ret
          rw [HE.out]
          exact ⟨rfl, HW.out⟩
        · have HJ2 := Lib.hid (HNX.out (by unfold fitsU; omega))
          clear HNX HBD
          go_wp2
          go_roundw
          case rel => exact ⟨j + 1, by omega, by go_num, by trivial, HJ2⟩
          case measure => simp [intOf]; omega
    · obtain rfl : j = ln + 1 := by omega
      have hji : ¬ ((ln + 1 : Nat) : Int) < ((ln + 1 : Nat) : Int) := by omega
      have hall : ∀ n ∈ b :: xs, fitsU n := by have := HJ.out; rw [List.take_of_length_le (by rw [HK1.out]; exact Nat.le_refl _)] at this; exact this
      have HALL := Lib.hid hall
      obtain ⟨hbw, hz, d0, d1, d2, d3, d4⟩ := HB4.out
      clear HJ hall HI4
      by_cases hR : rightBlock a = true
      · have HA := Lib.hid hR
        have HRB1 : Hid (∀ W, Calls Try.prog 28 #[.int .i64 a] W (Bool1 W true)) := Lib.hid fun W => by have := HRB.out W; rwa [hR] at this
        clear hR HRB
        have HF := Lib.hid (HF3.out HALL.out HA.out)
        have HBB := Lib.hid (HBY.out HALL.out HA.out)
        have hbw4 := HB4.out.below
        clear HBY HF3
        go_wp2_with fail
        refine (HRB1.out _).mono ?_
        rintro en w5 ⟨rfl, rfl⟩
        go_wp2_with fail
        refine (HBB.out _ HW.out).mono ?_
        rintro en w5 ⟨A5, c5, rfl, hown5, hB5, hn5, hc5, hb5⟩
        have HB5 := Lib.hid (HB4.out.keep hb5)
        clear HBB hown5 hb5 hbw hz d0 d1 d2 d3 d4 hbw4
        go_wp2_with fail
        refine (HO.out _ _ _ hB5 hc5).mono ?_
        rintro en w6 ⟨A6, c6, n6, hn6, rfl, hown6, hb6⟩
        have hb7 : Below w5.heap.size w5 (w6.alloc (.cells #[.int .i64 y.op, .int .i64 y.a, .int .i64 y.b, .int .i64 y.k, .slice A6 n6 c6] 25)) := hb6.alloc hb6.size _
        have HB7 := Lib.hid (HB5.out.keep hb7)
        have HV7 : Hid (InsV (w6.alloc (.cells #[.int .i64 y.op, .int .i64 y.a, .int .i64 y.b, .int .i64 y.k, .slice A6 n6 c6] 25)) (.agg #[.int .i64 y.op, .int .i64 y.a, .int .i64 y.b, .int .i64 y.k, .slice A6 n6 c6]) y) := Lib.hid (by
          obtain ⟨A8, c8, h8, hi8, hl8, hn8⟩ := hown6.ints
          simp only [Value.slice.injEq] at h8
          obtain ⟨rfl, rfl, rfl⟩ := h8
          exact InsV.below ⟨_, _, rfl, hi8, hl8, hn8⟩ ((Below.refl _ _).alloc (Nat.le_refl _) _))
        have HX7 : Hid (InsV (w6.alloc (.cells #[.int .i64 y.op, .int .i64 y.a, .int .i64 y.b, .int .i64 y.k, .slice A6 n6 c6] 25)) (.agg #[.int .i64 op, .int .i64 a, .int .i64 b, .int .i64 k, .slice LA ln lc]) ⟨op, a, b, k, xs⟩) := Lib.hid (InsV.below ⟨LA, lc, by rw [HLN.out], HI.out.1, by simp only; rw [HLN.out]; exact HI.out.2.2, HI.out.2.1⟩ HB7.out.below)
        have HW7 := Lib.hid HB7.out.below
        clear hb6 hb7 hown6 hn6 HB5 HO HI HLN
        obtain ⟨_, _, d0, d1, d2, d3, d4⟩ := HB7.out
        by_cases he : e = 0
        · subst he
          have HE := Lib.hid (HF.out.2 rfl)
          clear HF
          go_wp2_with fail
          refine (HS.out _ _ _ HX7.out HV7.out).mono ?_
          rintro en w8 ⟨rfl, hb8⟩
          have HW8 := Lib.hid (HW7.out.trans (hb8.mono HW7.out.size))
          clear HS hb8 HX7 HV7 d0 d1 d2 d3 d4
          generalize decide ((⟨op, a, b, k, xs⟩ : Ins) = y) = rb at *
          go_wp2
          go_ret
          rw [HE.out]
          exact ⟨rfl, HW8.out⟩
        · have HE := Lib.hid (HF.out.1 he)
          have hne : ((e : Int) == 0) = false := by simp; omega
          clear HF HS HX7 HV7
          go_wp2
          go_ret
          rw [HE.out]
          exact ⟨rfl, HW7.out⟩
      · have hR' : rightBlock a = false := by simpa using hR
        have HRB1 : Hid (∀ W, Calls Try.prog 28 #[.int .i64 a] W (Bool1 W false)) := Lib.hid fun W => by have := HRB.out W; rwa [hR'] at this
        have HE := Lib.hid (HF2.out (hR))
        clear HBY HO HF3 HS
        clear hR hR' HRB
        go_wp2_with fail
        refine (HRB1.out _).mono ?_
        rintro en w5 ⟨rfl, rfl⟩
        go_wp2
        go_ret
        rw [HE.out]
        exact ⟨rfl, HW.out⟩
set_option maxHeartbeats 4000000 in
set_option maxRecDepth 100000 in
theorem rf_a (xs : List Int) (hln : xs.length = ln) (hl100 : (ln : Int) ≤ 100) (k1 : ¬ op < 0) (k2 : ¬ 511 < op) (hi : Ints w w.heap.size LA xs) (hnil : LA = none → lc = 0) (hlc : ln ≤ lc) (bs : List Nat) (kb : Nat) (y : Ins) (q e : Nat) (R : Bool)
    (HP : Hid (∀ W, Calls Try.prog 27 #[.int .i64 op] W (PatIs W ⟨#[97]⟩)))
    (HF1 : Hid (¬ (∀ n ∈ b :: xs, fitsU n) → R = false)) (HF2 : Hid (¬ (fitsU a) → R = false))
    (HBY : Hid ((∀ n ∈ b :: xs, fitsU n) → fitsU a → ∀ W, Below w.heap.size w W → Calls Try.prog 16 #[.agg #[.int .i64 op, .int .i64 a, .int .i64 b, .int .i64 k, .slice LA ln lc]] W (GivesB W bs kb)))
    (HO : Hid (∀ A c W, Bytes W W.heap.size A bs → kb ≤ c → Calls Try.prog 29 #[.slice A kb c, .int .i64 0] W (OneW W (y, q, e))))
    (HF3 : Hid ((∀ n ∈ b :: xs, fitsU n) → fitsU a → (e ≠ 0 → R = false) ∧ (e = 0 → R = decide ((⟨op, a, b, k, xs⟩ : Ins) = y))))
    (HS : Hid (∀ W v v', InsV W v ⟨op, a, b, k, xs⟩ → InsV W v' y → Calls Try.prog 23 #[v, v'] W (Tells W (decide ((⟨op, a, b, k, xs⟩ : Ins) = y))))) :
    Calls Try.prog 12 #[.agg #[.int .i64 op, .int .i64 a, .int .i64 b, .int .i64 k, .slice LA ln lc]] w (Tells w R) := by
  have HB := Lib.hid (b5_of (Below.refl w.heap.size w) op a b k LA ln lc 25)
  have HI := Lib.hid (And.intro hi (And.intro hnil hlc))
  have HLN := Lib.hid hln
  clear hi hnil hlc hln
  go_enter Try.func12, Try.ntmps12
  go_wp2_with fail
  refine (HP.out _).mono ?_
  rintro en w1 ⟨rfl, hb1⟩
  have HB1 := Lib.hid (HB.out.keep hb1)
  have hlb : Below w1.heap.size w1 (w1.alloc (.cells #[.int .i64 b] 3)) := (Below.refl _ _).alloc (Nat.le_refl _) _
  have HX := Lib.hid (And.intro (lit_int w1 b) (And.intro ((HI.out.1.below HB1.out.below).below (hlb.mono HB1.out.below.size)) hlb.size))
  have HKP : Hid (∀ W, Below w1.heap.size (w1.alloc (.cells #[.int .i64 b] 3)) W → B5 w W w.heap.size op a b k LA ln lc) := Lib.hid fun W hW => (HB1.out.keep (hlb.trans hW))
  have hk101 : ([b] ++ xs).length = ln + 1 := by rw [List.length_append, HLN.out]; simp; omega
  have HK1 := Lib.hid hk101
  have hbound : ln + 1 ≤ 1000000 := by omega
  clear HP HB hb1 hlb hk101
  obtain ⟨hbw, hz, d0, d1, d2, d3, d4⟩ := HB1.out
  go_wp2_with (at_builtin; refine app_ints rfl (.tmp 30) (.tmp 32) rfl w1.heap.size _ [b] rfl HX.out.1 LA xs ln lc _ (ln + 1) HLN.out rfl HX.out.2.1 HI.out.2.1 HK1.out hbound HX.out.2.2 ?_; intro A4 c4 w4 hown4 hb4)
  have HB4 := Lib.hid (HKP.out w4 hb4)
  obtain ⟨A5, c5, hs5, hints, _, _⟩ := hown4.ints
  rw [HK1.out] at hs5
  simp only [Value.slice.injEq, true_and] at hs5
  obtain ⟨rfl, rfl⟩ := hs5
  have HI4 := Lib.hid hints
  clear HX HKP HB1 hbw hz d0 d1 d2 d3 d4 hown4 hb4 hints
  go_loopw [35] (fun x35 wr => ∃ j : Nat, j ≤ ln + 1 ∧ x35 = .int .i64 (j : Int) ∧ wr = w4 ∧ Hid (∀ n ∈ ([b] ++ xs).take j, fitsU n)) (fun i _ => ln + 1 - (intOf i).toNat)
  case atStart => exact ⟨0, Nat.zero_le _, by go_num, rfl, Lib.hid (by simp)⟩
  case round =>
    obtain ⟨j, hj, rfl, rfl, HJ⟩ := hrel
    have HW := Lib.hid HB4.out.below
    by_cases hjl : j < ln + 1
    · have hji : (j : Int) < ((ln + 1 : Nat) : Int) := by omega
      have hjx : j < ([b] ++ xs).length := by have := HK1.out; omega
      obtain ⟨bb, off, rfl, _, hc⟩ := HI4.out (by omega)
      have hcj := hc j hjx
      have hmem : ([b] ++ xs)[j] ∈ b :: xs := List.getElem_mem hjx
      have HNX : Hid (fitsU ([b] ++ xs)[j] → ∀ n ∈ ([b] ++ xs).take (j + 1), fitsU n) := Lib.hid fun hf => by
        rw [List.take_succ_eq_append_getElem hjx]
        intro n hn
        rcases List.mem_append.1 hn with h | h
        · exact HJ.out n h
        · rw [List.mem_singleton.1 h]; exact hf
      have HBD : Hid (¬ fitsU ([b] ++ xs)[j] → R = false) := Lib.hid fun hf => HF1.out fun h => hf (h _ hmem)
      clear hc HJ hmem
      generalize ([b] ++ xs)[j] = n at *
      by_cases hn0 : n < 0
      · have HE := Lib.hid (HBD.out (by unfold fitsU; omega))
        clear HNX HBD
        go_wp2
        go_ret
        rw [HE.out]
        exact ⟨rfl, HW.out⟩
      · by_cases hn1 : 4294967295 < n
        · have HE := Lib.hid (HBD.out (by unfold fitsU; omega))
          clear HNX HBD
          go_wp2
          go_ret
          rw [HE.out]
          exact ⟨rfl, HW.out⟩
        · have HJ2 := Lib.hid (HNX.out (by unfold fitsU; omega))
          clear HNX HBD
          go_wp2
          go_roundw
          case rel => exact ⟨j + 1, by omega, by go_num, by trivial, HJ2⟩
          case measure => simp [intOf]; omega
    · obtain rfl : j = ln + 1 := by omega
      have hji : ¬ ((ln + 1 : Nat) : Int) < ((ln + 1 : Nat) : Int) := by omega
      have hall : ∀ n ∈ b :: xs, fitsU n := by have := HJ.out; rw [List.take_of_length_le (by rw [HK1.out]; exact Nat.le_refl _)] at this; exact this
      have HALL := Lib.hid hall
      obtain ⟨hbw, hz, d0, d1, d2, d3, d4⟩ := HB4.out
      clear HJ hall HI4
      by_cases ha0 : a < 0
      · have HE := Lib.hid (HF2.out (by unfold fitsU; omega))
        clear HBY HO HF3 HS
        go_wp2
        go_ret
        rw [HE.out]
        exact ⟨rfl, HW.out⟩
      by_cases ha1 : 4294967295 < a
      · have HE := Lib.hid (HF2.out (by unfold fitsU; omega))
        clear HBY HO HF3 HS
        go_wp2
        go_ret
        rw [HE.out]
        exact ⟨rfl, HW.out⟩
      have HA : Hid (fitsU a) := Lib.hid (by unfold fitsU; omega)
      have HF := Lib.hid (HF3.out HALL.out HA.out)
      have HBB := Lib.hid (HBY.out HALL.out HA.out)
      have hbw4 := HB4.out.below
      clear HBY HF3
      go_wp2_with fail
      refine (HBB.out _ HW.out).mono ?_
      rintro en w5 ⟨A5, c5, rfl, hown5, hB5, hn5, hc5, hb5⟩
      have HB5 := Lib.hid (HB4.out.keep hb5)
      clear HBB hown5 hb5 hbw hz d0 d1 d2 d3 d4 hbw4
      go_wp2_with fail
      refine (HO.out _ _ _ hB5 hc5).mono ?_
      rintro en w6 ⟨A6, c6, n6, hn6, rfl, hown6, hb6⟩
      have hb7 : Below w5.heap.size w5 (w6.alloc (.cells #[.int .i64 y.op, .int .i64 y.a, .int .i64 y.b, .int .i64 y.k, .slice A6 n6 c6] 25)) := hb6.alloc hb6.size _
      have HB7 := Lib.hid (HB5.out.keep hb7)
      have HV7 : Hid (InsV (w6.alloc (.cells #[.int .i64 y.op, .int .i64 y.a, .int .i64 y.b, .int .i64 y.k, .slice A6 n6 c6] 25)) (.agg #[.int .i64 y.op, .int .i64 y.a, .int .i64 y.b, .int .i64 y.k, .slice A6 n6 c6]) y) := Lib.hid (by
        obtain ⟨A8, c8, h8, hi8, hl8, hn8⟩ := hown6.ints
        simp only [Value.slice.injEq] at h8
        obtain ⟨rfl, rfl, rfl⟩ := h8
        exact InsV.below ⟨_, _, rfl, hi8, hl8, hn8⟩ ((Below.refl _ _).alloc (Nat.le_refl _) _))
      have HX7 : Hid (InsV (w6.alloc (.cells #[.int .i64 y.op, .int .i64 y.a, .int .i64 y.b, .int .i64 y.k, .slice A6 n6 c6] 25)) (.agg #[.int .i64 op, .int .i64 a, .int .i64 b, .int .i64 k, .slice LA ln lc]) ⟨op, a, b, k, xs⟩) := Lib.hid (InsV.below ⟨LA, lc, by rw [HLN.out], HI.out.1, by simp only; rw [HLN.out]; exact HI.out.2.2, HI.out.2.1⟩ HB7.out.below)
      have HW7 := Lib.hid HB7.out.below
      clear hb6 hb7 hown6 hn6 HB5 HO HI HLN
      obtain ⟨_, _, d0, d1, d2, d3, d4⟩ := HB7.out
      by_cases he : e = 0
      · subst he
        have HE := Lib.hid (HF.out.2 rfl)
        clear HF
        go_wp2_with fail
        refine (HS.out _ _ _ HX7.out HV7.out).mono ?_
        rintro en w8 ⟨rfl, hb8⟩
        have HW8 := Lib.hid (HW7.out.trans (hb8.mono HW7.out.size))
        clear HS hb8 HX7 HV7 d0 d1 d2 d3 d4
        generalize decide ((⟨op, a, b, k, xs⟩ : Ins) = y) = rb at *
        go_wp2
        go_ret
        rw [HE.out]
        exact ⟨rfl, HW8.out⟩
      · have HE := Lib.hid (HF.out.1 he)
        have hne : ((e : Int) == 0) = false := by simp; omega
        clear HF HS HX7 HV7
        go_wp2
        go_ret
        rw [HE.out]
        exact ⟨rfl, HW7.out⟩
set_option maxHeartbeats 4000000 in
set_option maxRecDepth 100000 in
theorem rf_la (xs : List Int) (hln : xs.length = ln) (hl100 : (ln : Int) ≤ 100) (k1 : ¬ op < 0) (k2 : ¬ 511 < op) (hi : Ints w w.heap.size LA xs) (hnil : LA = none → lc = 0) (hlc : ln ≤ lc) (bs : List Nat) (kb : Nat) (y : Ins) (q e : Nat) (R : Bool)
    (HP : Hid (∀ W, Calls Try.prog 27 #[.int .i64 op] W (PatIs W ⟨#[108, 97]⟩)))
    (HF1 : Hid (¬ (∀ n ∈ b :: xs, fitsU n) → R = false)) (HF2 : Hid (¬ (fitsU a) → R = false))
    (HBY : Hid ((∀ n ∈ b :: xs, fitsU n) → fitsU a → ∀ W, Below w.heap.size w W → Calls Try.prog 16 #[.agg #[.int .i64 op, .int .i64 a, .int .i64 b, .int .i64 k, .slice LA ln lc]] W (GivesB W bs kb)))
    (HO : Hid (∀ A c W, Bytes W W.heap.size A bs → kb ≤ c → Calls Try.prog 29 #[.slice A kb c, .int .i64 0] W (OneW W (y, q, e))))
    (HF3 : Hid ((∀ n ∈ b :: xs, fitsU n) → fitsU a → (e ≠ 0 → R = false) ∧ (e = 0 → R = decide ((⟨op, a, b, k, xs⟩ : Ins) = y))))
    (HS : Hid (∀ W v v', InsV W v ⟨op, a, b, k, xs⟩ → InsV W v' y → Calls Try.prog 23 #[v, v'] W (Tells W (decide ((⟨op, a, b, k, xs⟩ : Ins) = y))))) :
    Calls Try.prog 12 #[.agg #[.int .i64 op, .int .i64 a, .int .i64 b, .int .i64 k, .slice LA ln lc]] w (Tells w R) := by
  have HB := Lib.hid (b5_of (Below.refl w.heap.size w) op a b k LA ln lc 25)
  have HI := Lib.hid (And.intro hi (And.intro hnil hlc))
  have HLN := Lib.hid hln
  clear hi hnil hlc hln
  go_enter Try.func12, Try.ntmps12
  go_wp2_with fail
  refine (HP.out _).mono ?_
  rintro en w1 ⟨rfl, hb1⟩
  have HB1 := Lib.hid (HB.out.keep hb1)
  have hlb : Below w1.heap.size w1 (w1.alloc (.cells #[.int .i64 b] 3)) := (Below.refl _ _).alloc (Nat.le_refl _) _
  have HX := Lib.hid (And.intro (lit_int w1 b) (And.intro ((HI.out.1.below HB1.out.below).below (hlb.mono HB1.out.below.size)) hlb.size))
  have HKP : Hid (∀ W, Below w1.heap.size (w1.alloc (.cells #[.int .i64 b] 3)) W → B5 w W w.heap.size op a b k LA ln lc) := Lib.hid fun W hW => (HB1.out.keep (hlb.trans hW))
  have hk101 : ([b] ++ xs).length = ln + 1 := by rw [List.length_append, HLN.out]; simp; omega
  have HK1 := Lib.hid hk101
  have hbound : ln + 1 ≤ 1000000 := by omega
  clear HP HB hb1 hlb hk101
  obtain ⟨hbw, hz, d0, d1, d2, d3, d4⟩ := HB1.out
  go_wp2_with (at_builtin; refine app_ints rfl (.tmp 30) (.tmp 32) rfl w1.heap.size _ [b] rfl HX.out.1 LA xs ln lc _ (ln + 1) HLN.out rfl HX.out.2.1 HI.out.2.1 HK1.out hbound HX.out.2.2 ?_; intro A4 c4 w4 hown4 hb4)
  have HB4 := Lib.hid (HKP.out w4 hb4)
  obtain ⟨A5, c5, hs5, hints, _, _⟩ := hown4.ints
  rw [HK1.out] at hs5
  simp only [Value.slice.injEq, true_and] at hs5
  obtain ⟨rfl, rfl⟩ := hs5
  have HI4 := Lib.hid hints
  clear HX HKP HB1 hbw hz d0 d1 d2 d3 d4 hown4 hb4 hints
  go_loopw [35] (fun x35 wr => ∃ j : Nat, j ≤ ln + 1 ∧ x35 = .int .i64 (j : Int) ∧ wr = w4 ∧ Hid (∀ n ∈ ([b] ++ xs).take j, fitsU n)) (fun i _ => ln + 1 - (intOf i).toNat)
  case atStart => exact ⟨0, Nat.zero_le _, by go_num, rfl, Lib.hid (by simp)⟩
  case round =>
    obtain ⟨j, hj, rfl, rfl, HJ⟩ := hrel
    have HW := Lib.hid HB4.out.below
    by_cases hjl : j < ln + 1
    · have hji : (j : Int) < ((ln + 1 : Nat) : Int) := by omega
      have hjx : j < ([b] ++ xs).length := by have := HK1.out; omega
      obtain ⟨bb, off, rfl, _, hc⟩ := HI4.out (by omega)
      have hcj := hc j hjx
      have hmem : ([b] ++ xs)[j] ∈ b :: xs := List.getElem_mem hjx
      have HNX : Hid (fitsU ([b] ++ xs)[j] → ∀ n ∈ ([b] ++ xs).take (j + 1), fitsU n) := Lib.hid fun hf => by
        rw [List.take_succ_eq_append_getElem hjx]
        intro n hn
        rcases List.mem_append.1 hn with h | h
        · exact HJ.out n h
        · rw [List.mem_singleton.1 h]; exact hf
      have HBD : Hid (¬ fitsU ([b] ++ xs)[j] → R = false) := Lib.hid fun hf => HF1.out fun h => hf (h _ hmem)
      clear hc HJ hmem
      generalize ([b] ++ xs)[j] = n at *
      by_cases hn0 : n < 0
      · have HE := Lib.hid (HBD.out (by unfold fitsU; omega))
        clear HNX HBD
        go_wp2
        go_ret
        rw [HE.out]
        exact ⟨rfl, HW.out⟩
      · by_cases hn1 : 4294967295 < n
        · have HE := Lib.hid (HBD.out (by unfold fitsU; omega))
          clear HNX HBD
          go_wp2
          go_ret
          rw [HE.out]
          exact ⟨rfl, HW.out⟩
        · have HJ2 := Lib.hid (HNX.out (by unfold fitsU; omega))
          clear HNX HBD
          go_wp2
          go_roundw
          case rel => exact ⟨j + 1, by omega, by go_num, by trivial, HJ2⟩
          case measure => simp [intOf]; omega
    · obtain rfl : j = ln + 1 := by omega
      have hji : ¬ ((ln + 1 : Nat) : Int) < ((ln + 1 : Nat) : Int) := by omega
      have hall : ∀ n ∈ b :: xs, fitsU n := by have := HJ.out; rw [List.take_of_length_le (by rw [HK1.out]; exact Nat.le_refl _)] at this; exact this
      have HALL := Lib.hid hall
      obtain ⟨hbw, hz, d0, d1, d2, d3, d4⟩ := HB4.out
      clear HJ hall HI4
      by_cases ha0 : a < 0
      · have HE := Lib.hid (HF2.out (by unfold fitsU; omega))
        clear HBY HO HF3 HS
        go_wp2
        go_ret
        rw [HE.out]
        exact ⟨rfl, HW.out⟩
      by_cases ha1 : 4294967295 < a
      · have HE := Lib.hid (HF2.out (by unfold fitsU; omega))
        clear HBY HO HF3 HS
        go_wp2
        go_ret
        rw [HE.out]
        exact ⟨rfl, HW.out⟩
      have HA : Hid (fitsU a) := Lib.hid (by unfold fitsU; omega)
      have HF := Lib.hid (HF3.out HALL.out HA.out)
      have HBB := Lib.hid (HBY.out HALL.out HA.out)
      have hbw4 := HB4.out.below
      clear HBY HF3
      go_wp2_with fail
      refine (HBB.out _ HW.out).mono ?_
      rintro en w5 ⟨A5, c5, rfl, hown5, hB5, hn5, hc5, hb5⟩
      have HB5 := Lib.hid (HB4.out.keep hb5)
      clear HBB hown5 hb5 hbw hz d0 d1 d2 d3 d4 hbw4
      go_wp2_with fail
      refine (HO.out _ _ _ hB5 hc5).mono ?_
      rintro en w6 ⟨A6, c6, n6, hn6, rfl, hown6, hb6⟩
      have hb7 : Below w5.heap.size w5 (w6.alloc (.cells #[.int .i64 y.op, .int .i64 y.a, .int .i64 y.b, .int .i64 y.k, .slice A6 n6 c6] 25)) := hb6.alloc hb6.size _
      have HB7 := Lib.hid (HB5.out.keep hb7)
      have HV7 : Hid (InsV (w6.alloc (.cells #[.int .i64 y.op, .int .i64 y.a, .int .i64 y.b, .int .i64 y.k, .slice A6 n6 c6] 25)) (.agg #[.int .i64 y.op, .int .i64 y.a, .int .i64 y.b, .int .i64 y.k, .slice A6 n6 c6]) y) := Lib.hid (by
        obtain ⟨A8, c8, h8, hi8, hl8, hn8⟩ := hown6.ints
        simp only [Value.slice.injEq] at h8
        obtain ⟨rfl, rfl, rfl⟩ := h8
        exact InsV.below ⟨_, _, rfl, hi8, hl8, hn8⟩ ((Below.refl _ _).alloc (Nat.le_refl _) _))
      have HX7 : Hid (InsV (w6.alloc (.cells #[.int .i64 y.op, .int .i64 y.a, .int .i64 y.b, .int .i64 y.k, .slice A6 n6 c6] 25)) (.agg #[.int .i64 op, .int .i64 a, .int .i64 b, .int .i64 k, .slice LA ln lc]) ⟨op, a, b, k, xs⟩) := Lib.hid (InsV.below ⟨LA, lc, by rw [HLN.out], HI.out.1, by simp only; rw [HLN.out]; exact HI.out.2.2, HI.out.2.1⟩ HB7.out.below)
      have HW7 := Lib.hid HB7.out.below
      clear hb6 hb7 hown6 hn6 HB5 HO HI HLN
      obtain ⟨_, _, d0, d1, d2, d3, d4⟩ := HB7.out
      by_cases he : e = 0
      · subst he
        have HE := Lib.hid (HF.out.2 rfl)
        clear HF
        go_wp2_with fail
        refine (HS.out _ _ _ HX7.out HV7.out).mono ?_
        rintro en w8 ⟨rfl, hb8⟩
        have HW8 := Lib.hid (HW7.out.trans (hb8.mono HW7.out.size))
        clear HS hb8 HX7 HV7 d0 d1 d2 d3 d4
        generalize decide ((⟨op, a, b, k, xs⟩ : Ins) = y) = rb at *
        go_wp2
        go_ret
        rw [HE.out]
        exact ⟨rfl, HW8.out⟩
      · have HE := Lib.hid (HF.out.1 he)
        have hne : ((e : Int) == 0) = false := by simp; omega
        clear HF HS HX7 HV7
        go_wp2
        go_ret
        rw [HE.out]
        exact ⟨rfl, HW7.out⟩
set_option maxHeartbeats 4000000 in
set_option maxRecDepth 100000 in
theorem rf_ab (xs : List Int) (hln : xs.length = ln) (hl100 : (ln : Int) ≤ 100) (k1 : ¬ op < 0) (k2 : ¬ 511 < op) (hi : Ints w w.heap.size LA xs) (hnil : LA = none → lc = 0) (hlc : ln ≤ lc) (bs : List Nat) (kb : Nat) (y : Ins) (q e : Nat) (R : Bool)
    (HP : Hid (∀ W, Calls Try.prog 27 #[.int .i64 op] W (PatIs W ⟨#[97, 98]⟩)))
    (HF1 : Hid (¬ (∀ n ∈ b :: xs, fitsU n) → R = false)) (HF2 : Hid (¬ (fitsU a) → R = false))
    (HBY : Hid ((∀ n ∈ b :: xs, fitsU n) → fitsU a → ∀ W, Below w.heap.size w W → Calls Try.prog 16 #[.agg #[.int .i64 op, .int .i64 a, .int .i64 b, .int .i64 k, .slice LA ln lc]] W (GivesB W bs kb)))
    (HO : Hid (∀ A c W, Bytes W W.heap.size A bs → kb ≤ c → Calls Try.prog 29 #[.slice A kb c, .int .i64 0] W (OneW W (y, q, e))))
    (HF3 : Hid ((∀ n ∈ b :: xs, fitsU n) → fitsU a → (e ≠ 0 → R = false) ∧ (e = 0 → R = decide ((⟨op, a, b, k, xs⟩ : Ins) = y))))
    (HS : Hid (∀ W v v', InsV W v ⟨op, a, b, k, xs⟩ → InsV W v' y → Calls Try.prog 23 #[v, v'] W (Tells W (decide ((⟨op, a, b, k, xs⟩ : Ins) = y))))) :
    Calls Try.prog 12 #[.agg #[.int .i64 op, .int .i64 a, .int .i64 b, .int .i64 k, .slice LA ln lc]] w (Tells w R) := by
  have HB := Lib.hid (b5_of (Below.refl w.heap.size w) op a b k LA ln lc 25)
  have HI := Lib.hid (And.intro hi (And.intro hnil hlc))
  have HLN := Lib.hid hln
  clear hi hnil hlc hln
  go_enter Try.func12, Try.ntmps12
  go_wp2_with fail
  refine (HP.out _).mono ?_
  rintro en w1 ⟨rfl, hb1⟩
  have HB1 := Lib.hid (HB.out.keep hb1)
  have hlb : Below w1.heap.size w1 (w1.alloc (.cells #[.int .i64 b] 3)) := (Below.refl _ _).alloc (Nat.le_refl _) _
  have HX := Lib.hid (And.intro (lit_int w1 b) (And.intro ((HI.out.1.below HB1.out.below).below (hlb.mono HB1.out.below.size)) hlb.size))
  have HKP : Hid (∀ W, Below w1.heap.size (w1.alloc (.cells #[.int .i64 b] 3)) W → B5 w W w.heap.size op a b k LA ln lc) := Lib.hid fun W hW => (HB1.out.keep (hlb.trans hW))
  have hk101 : ([b] ++ xs).length = ln + 1 := by rw [List.length_append, HLN.out]; simp; omega
  have HK1 := Lib.hid hk101
  have hbound : ln + 1 ≤ 1000000 := by omega
  clear HP HB hb1 hlb hk101
  obtain ⟨hbw, hz, d0, d1, d2, d3, d4⟩ := HB1.out
  go_wp2_with (at_builtin; refine app_ints rfl (.tmp 30) (.tmp 32) rfl w1.heap.size _ [b] rfl HX.out.1 LA xs ln lc _ (ln + 1) HLN.out rfl HX.out.2.1 HI.out.2.1 HK1.out hbound HX.out.2.2 ?_; intro A4 c4 w4 hown4 hb4)
  have HB4 := Lib.hid (HKP.out w4 hb4)
  obtain ⟨A5, c5, hs5, hints, _, _⟩ := hown4.ints
  rw [HK1.out] at hs5
  simp only [Value.slice.injEq, true_and] at hs5
  obtain ⟨rfl, rfl⟩ := hs5
  have HI4 := Lib.hid hints
  clear HX HKP HB1 hbw hz d0 d1 d2 d3 d4 hown4 hb4 hints
  go_loopw [35] (fun x35 wr => ∃ j : Nat, j ≤ ln + 1 ∧ x35 = .int .i64 (j : Int) ∧ wr = w4 ∧ Hid (∀ n ∈ ([b] ++ xs).take j, fitsU n)) (fun i _ => ln + 1 - (intOf i).toNat)
  case atStart => exact ⟨0, Nat.zero_le _, by go_num, rfl, Lib.hid (by simp)⟩
  case round =>
    obtain ⟨j, hj, rfl, rfl, HJ⟩ := hrel
    have HW := Lib.hid HB4.out.below
    by_cases hjl : j < ln + 1
    · have hji : (j : Int) < ((ln + 1 : Nat) : Int) := by omega
      have hjx : j < ([b] ++ xs).length := by have := HK1.out; omega
      obtain ⟨bb, off, rfl, _, hc⟩ := HI4.out (by omega)
      have hcj := hc j hjx
      have hmem : ([b] ++ xs)[j] ∈ b :: xs := List.getElem_mem hjx
      have HNX : Hid (fitsU ([b] ++ xs)[j] → ∀ n ∈ ([b] ++ xs).take (j + 1), fitsU n) := Lib.hid fun hf => by
        rw [List.take_succ_eq_append_getElem hjx]
        intro n hn
        rcases List.mem_append.1 hn with h | h
        · exact HJ.out n h
        · rw [List.mem_singleton.1 h]; exact hf
      have HBD : Hid (¬ fitsU ([b] ++ xs)[j] → R = false) := Lib.hid fun hf => HF1.out fun h => hf (h _ hmem)
      clear hc HJ hmem
      generalize ([b] ++ xs)[j] = n at *
      by_cases hn0 : n < 0
      · have HE := Lib.hid (HBD.out (by unfold fitsU; omega))
        clear HNX HBD
        go_wp2
        go_ret
        rw [HE.out]
        exact ⟨rfl, HW.out⟩
      · by_cases hn1 : 4294967295 < n
        · have HE := Lib.hid (HBD.out (by unfold fitsU; omega))
          clear HNX HBD
          go_wp2
          go_ret
          rw [HE.out]
          exact ⟨rfl, HW.out⟩
        · have HJ2 := Lib.hid (HNX.out (by unfold fitsU; omega))
          clear HNX HBD
          go_wp2
          go_roundw
          case rel => exact ⟨j + 1, by omega, by go_num, by trivial, HJ2⟩
          case measure => simp [intOf]; omega
    · obtain rfl : j = ln + 1 := by omega
      have hji : ¬ ((ln + 1 : Nat) : Int) < ((ln + 1 : Nat) : Int) := by omega
      have hall : ∀ n ∈ b :: xs, fitsU n := by have := HJ.out; rw [List.take_of_length_le (by rw [HK1.out]; exact Nat.le_refl _)] at this; exact this
      have HALL := Lib.hid hall
      obtain ⟨hbw, hz, d0, d1, d2, d3, d4⟩ := HB4.out
      clear HJ hall HI4
      by_cases ha0 : a < 0
      · have HE := Lib.hid (HF2.out (by unfold fitsU; omega))
        clear HBY HO HF3 HS
        go_wp2
        go_ret
        rw [HE.out]
        exact ⟨rfl, HW.out⟩
      by_cases ha1 : 4294967295 < a
      · have HE := Lib.hid (HF2.out (by unfold fitsU; omega))
        clear HBY HO HF3 HS
        go_wp2
        go_ret
        rw [HE.out]
        exact ⟨rfl, HW.out⟩
      have HA : Hid (fitsU a) := Lib.hid (by unfold fitsU; omega)
      have HF := Lib.hid (HF3.out HALL.out HA.out)
      have HBB := Lib.hid (HBY.out HALL.out HA.out)
      have hbw4 := HB4.out.below
      clear HBY HF3
      go_wp2_with fail
      refine (HBB.out _ HW.out).mono ?_
      rintro en w5 ⟨A5, c5, rfl, hown5, hB5, hn5, hc5, hb5⟩
      have HB5 := Lib.hid (HB4.out.keep hb5)
      clear HBB hown5 hb5 hbw hz d0 d1 d2 d3 d4 hbw4
      go_wp2_with fail
      refine (HO.out _ _ _ hB5 hc5).mono ?_
      rintro en w6 ⟨A6, c6, n6, hn6, rfl, hown6, hb6⟩
      have hb7 : Below w5.heap.size w5 (w6.alloc (.cells #[.int .i64 y.op, .int .i64 y.a, .int .i64 y.b, .int .i64 y.k, .slice A6 n6 c6] 25)) := hb6.alloc hb6.size _
      have HB7 := Lib.hid (HB5.out.keep hb7)
      have HV7 : Hid (InsV (w6.alloc (.cells #[.int .i64 y.op, .int .i64 y.a, .int .i64 y.b, .int .i64 y.k, .slice A6 n6 c6] 25)) (.agg #[.int .i64 y.op, .int .i64 y.a, .int .i64 y.b, .int .i64 y.k, .slice A6 n6 c6]) y) := Lib.hid (by
        obtain ⟨A8, c8, h8, hi8, hl8, hn8⟩ := hown6.ints
        simp only [Value.slice.injEq] at h8
        obtain ⟨rfl, rfl, rfl⟩ := h8
        exact InsV.below ⟨_, _, rfl, hi8, hl8, hn8⟩ ((Below.refl _ _).alloc (Nat.le_refl _) _))
      have HX7 : Hid (InsV (w6.alloc (.cells #[.int .i64 y.op, .int .i64 y.a, .int .i64 y.b, .int .i64 y.k, .slice A6 n6 c6] 25)) (.agg #[.int .i64 op, .int .i64 a, .int .i64 b, .int .i64 k, .slice LA ln lc]) ⟨op, a, b, k, xs⟩) := Lib.hid (InsV.below ⟨LA, lc, by rw [HLN.out], HI.out.1, by simp only; rw [HLN.out]; exact HI.out.2.2, HI.out.2.1⟩ HB7.out.below)
      have HW7 := Lib.hid HB7.out.below
      clear hb6 hb7 hown6 hn6 HB5 HO HI HLN
      obtain ⟨_, _, d0, d1, d2, d3, d4⟩ := HB7.out
      by_cases he : e = 0
      · subst he
        have HE := Lib.hid (HF.out.2 rfl)
        clear HF
        go_wp2_with fail
        refine (HS.out _ _ _ HX7.out HV7.out).mono ?_
        rintro en w8 ⟨rfl, hb8⟩
        have HW8 := Lib.hid (HW7.out.trans (hb8.mono HW7.out.size))
        clear HS hb8 HX7 HV7 d0 d1 d2 d3 d4
        generalize decide ((⟨op, a, b, k, xs⟩ : Ins) = y) = rb at *
        go_wp2
        go_ret
        rw [HE.out]
        exact ⟨rfl, HW8.out⟩
      · have HE := Lib.hid (HF.out.1 he)
        have hne : ((e : Int) == 0) = false := by simp; omega
        clear HF HS HX7 HV7
        go_wp2
        go_ret
        rw [HE.out]
        exact ⟨rfl, HW7.out⟩
set_option maxHeartbeats 4000000 in
set_option maxRecDepth 100000 in
theorem rf_z (xs : List Int) (hln : xs.length = ln) (hl100 : (ln : Int) ≤ 100) (k1 : ¬ op < 0) (k2 : ¬ 511 < op) (hi : Ints w w.heap.size LA xs) (hnil : LA = none → lc = 0) (hlc : ln ≤ lc) (bs : List Nat) (kb : Nat) (y : Ins) (q e : Nat) (R : Bool)
    (HP : Hid (∀ W, Calls Try.prog 27 #[.int .i64 op] W (PatIs W ⟨#[122]⟩)))
    (HF1 : Hid (¬ (∀ n ∈ b :: xs, fitsU n) → R = false)) (HF2 : Hid (¬ (fitsU a) → R = false))
    (HBY : Hid ((∀ n ∈ b :: xs, fitsU n) → fitsU a → ∀ W, Below w.heap.size w W → Calls Try.prog 16 #[.agg #[.int .i64 op, .int .i64 a, .int .i64 b, .int .i64 k, .slice LA ln lc]] W (GivesB W bs kb)))
    (HO : Hid (∀ A c W, Bytes W W.heap.size A bs → kb ≤ c → Calls Try.prog 29 #[.slice A kb c, .int .i64 0] W (OneW W (y, q, e))))
    (HF3 : Hid ((∀ n ∈ b :: xs, fitsU n) → fitsU a → (e ≠ 0 → R = false) ∧ (e = 0 → R = decide ((⟨op, a, b, k, xs⟩ : Ins) = y))))
    (HS : Hid (∀ W v v', InsV W v ⟨op, a, b, k, xs⟩ → InsV W v' y → Calls Try.prog 23 #[v, v'] W (Tells W (decide ((⟨op, a, b, k, xs⟩ : Ins) = y))))) :
    Calls Try.prog 12 #[.agg #[.int .i64 op, .int .i64 a, .int .i64 b, .int .i64 k, .slice LA ln lc]] w (Tells w R) := by
  have HB := Lib.hid (b5_of (Below.refl w.heap.size w) op a b k LA ln lc 25)
  have HI := Lib.hid (And.intro hi (And.intro hnil hlc))
  have HLN := Lib.hid hln
  clear hi hnil hlc hln
  go_enter Try.func12, Try.ntmps12
  go_wp2_with fail
  refine (HP.out _).mono ?_
  rintro en w1 ⟨rfl, hb1⟩
  have HB1 := Lib.hid (HB.out.keep hb1)
  have hlb : Below w1.heap.size w1 (w1.alloc (.cells #[.int .i64 b] 3)) := (Below.refl _ _).alloc (Nat.le_refl _) _
  have HX := Lib.hid (And.intro (lit_int w1 b) (And.intro ((HI.out.1.below HB1.out.below).below (hlb.mono HB1.out.below.size)) hlb.size))
  have HKP : Hid (∀ W, Below w1.heap.size (w1.alloc (.cells #[.int .i64 b] 3)) W → B5 w W w.heap.size op a b k LA ln lc) := Lib.hid fun W hW => (HB1.out.keep (hlb.trans hW))
  have hk101 : ([b] ++ xs).length = ln + 1 := by rw [List.length_append, HLN.out]; simp; omega
  have HK1 := Lib.hid hk101
  have hbound : ln + 1 ≤ 1000000 := by omega
  clear HP HB hb1 hlb hk101
  obtain ⟨hbw, hz, d0, d1, d2, d3, d4⟩ := HB1.out
  go_wp2_with (at_builtin; refine app_ints rfl (.tmp 30) (.tmp 32) rfl w1.heap.size _ [b] rfl HX.out.1 LA xs ln lc _ (ln + 1) HLN.out rfl HX.out.2.1 HI.out.2.1 HK1.out hbound HX.out.2.2 ?_; intro A4 c4 w4 hown4 hb4)
  have HB4 := Lib.hid (HKP.out w4 hb4)
  obtain ⟨A5, c5, hs5, hints, _, _⟩ := hown4.ints
  rw [HK1.out] at hs5
  simp only [Value.slice.injEq, true_and] at hs5
  obtain ⟨rfl, rfl⟩ := hs5
  have HI4 := Lib.hid hints
  clear HX HKP HB1 hbw hz d0 d1 d2 d3 d4 hown4 hb4 hints
  go_loopw [35] (fun x35 wr => ∃ j : Nat, j ≤ ln + 1 ∧ x35 = .int .i64 (j : Int) ∧ wr = w4 ∧ Hid (∀ n ∈ ([b] ++ xs).take j, fitsU n)) (fun i _ => ln + 1 - (intOf i).toNat)
  case atStart => exact ⟨0, Nat.zero_le _, by go_num, rfl, Lib.hid (by simp)⟩
  case round =>
    obtain ⟨j, hj, rfl, rfl, HJ⟩ := hrel
    have HW := Lib.hid HB4.out.below
    by_cases hjl : j < ln + 1
    · have hji : (j : Int) < ((ln + 1 : Nat) : Int) := by omega
      have hjx : j < ([b] ++ xs).length := by have := HK1.out; omega
      obtain ⟨bb, off, rfl, _, hc⟩ := HI4.out (by omega)
      have hcj := hc j hjx
      have hmem : ([b] ++ xs)[j] ∈ b :: xs := List.getElem_mem hjx
      have HNX : Hid (fitsU ([b] ++ xs)[j] → ∀ n ∈ ([b] ++ xs).take (j + 1), fitsU n) := Lib.hid fun hf => by
        rw [List.take_succ_eq_append_getElem hjx]
        intro n hn
        rcases List.mem_append.1 hn with h | h
        · exact HJ.out n h
        · rw [List.mem_singleton.1 h]; exact hf
      have HBD : Hid (¬ fitsU ([b] ++ xs)[j] → R = false) := Lib.hid fun hf => HF1.out fun h => hf (h _ hmem)
      clear hc HJ hmem
      generalize ([b] ++ xs)[j] = n at *
      by_cases hn0 : n < 0
      · have HE := Lib.hid (HBD.out (by unfold fitsU; omega))
        clear HNX HBD
        go_wp2
        go_ret
        rw [HE.out]
        exact ⟨rfl, HW.out⟩
      · by_cases hn1 : 4294967295 < n
        · have HE := Lib.hid (HBD.out (by unfold fitsU; omega))
          clear HNX HBD
          go_wp2
          go_ret
          rw [HE.out]
          exact ⟨rfl, HW.out⟩
        · have HJ2 := Lib.hid (HNX.out (by unfold fitsU; omega))
          clear HNX HBD
          go_wp2
          go_roundw
          case rel => exact ⟨j + 1, by omega, by go_num, by trivial, HJ2⟩
          case measure => simp [intOf]; omega
    · obtain rfl : j = ln + 1 := by omega
      have hji : ¬ ((ln + 1 : Nat) : Int) < ((ln + 1 : Nat) : Int) := by omega
      have hall : ∀ n ∈ b :: xs, fitsU n := by have := HJ.out; rw [List.take_of_length_le (by rw [HK1.out]; exact Nat.le_refl _)] at this; exact this
      have HALL := Lib.hid hall
      obtain ⟨hbw, hz, d0, d1, d2, d3, d4⟩ := HB4.out
      clear HJ hall HI4
      by_cases ha0 : a < 0
      · have HE := Lib.hid (HF2.out (by unfold fitsU; omega))
        clear HBY HO HF3 HS
        go_wp2
        go_ret
        rw [HE.out]
        exact ⟨rfl, HW.out⟩
      by_cases ha1 : 4294967295 < a
      · have HE := Lib.hid (HF2.out (by unfold fitsU; omega))
        clear HBY HO HF3 HS
        go_wp2
        go_ret
        rw [HE.out]
        exact ⟨rfl, HW.out⟩
      have HA : Hid (fitsU a) := Lib.hid (by unfold fitsU; omega)
      have HF := Lib.hid (HF3.out HALL.out HA.out)
      have HBB := Lib.hid (HBY.out HALL.out HA.out)
      have hbw4 := HB4.out.below
      clear HBY HF3
      go_wp2_with fail
      refine (HBB.out _ HW.out).mono ?_
      rintro en w5 ⟨A5, c5, rfl, hown5, hB5, hn5, hc5, hb5⟩
      have HB5 := Lib.hid (HB4.out.keep hb5)
      clear HBB hown5 hb5 hbw hz d0 d1 d2 d3 d4 hbw4
      go_wp2_with fail
      refine (HO.out _ _ _ hB5 hc5).mono ?_
      rintro en w6 ⟨A6, c6, n6, hn6, rfl, hown6, hb6⟩
      have hb7 : Below w5.heap.size w5 (w6.alloc (.cells #[.int .i64 y.op, .int .i64 y.a, .int .i64 y.b, .int .i64 y.k, .slice A6 n6 c6] 25)) := hb6.alloc hb6.size _
      have HB7 := Lib.hid (HB5.out.keep hb7)
      have HV7 : Hid (InsV (w6.alloc (.cells #[.int .i64 y.op, .int .i64 y.a, .int .i64 y.b, .int .i64 y.k, .slice A6 n6 c6] 25)) (.agg #[.int .i64 y.op, .int .i64 y.a, .int .i64 y.b, .int .i64 y.k, .slice A6 n6 c6]) y) := Lib.hid (by
        obtain ⟨A8, c8, h8, hi8, hl8, hn8⟩ := hown6.ints
        simp only [Value.slice.injEq] at h8
        obtain ⟨rfl, rfl, rfl⟩ := h8
        exact InsV.below ⟨_, _, rfl, hi8, hl8, hn8⟩ ((Below.refl _ _).alloc (Nat.le_refl _) _))
      have HX7 : Hid (InsV (w6.alloc (.cells #[.int .i64 y.op, .int .i64 y.a, .int .i64 y.b, .int .i64 y.k, .slice A6 n6 c6] 25)) (.agg #[.int .i64 op, .int .i64 a, .int .i64 b, .int .i64 k, .slice LA ln lc]) ⟨op, a, b, k, xs⟩) := Lib.hid (InsV.below ⟨LA, lc, by rw [HLN.out], HI.out.1, by simp only; rw [HLN.out]; exact HI.out.2.2, HI.out.2.1⟩ HB7.out.below)
      have HW7 := Lib.hid HB7.out.below
      clear hb6 hb7 hown6 hn6 HB5 HO HI HLN
      obtain ⟨_, _, d0, d1, d2, d3, d4⟩ := HB7.out
      by_cases he : e = 0
      · subst he
        have HE := Lib.hid (HF.out.2 rfl)
        clear HF
        go_wp2_with fail
        refine (HS.out _ _ _ HX7.out HV7.out).mono ?_
        rintro en w8 ⟨rfl, hb8⟩
        have HW8 := Lib.hid (HW7.out.trans (hb8.mono HW7.out.size))
        clear HS hb8 HX7 HV7 d0 d1 d2 d3 d4
        generalize decide ((⟨op, a, b, k, xs⟩ : Ins) = y) = rb at *
        go_wp2
        go_ret
        rw [HE.out]
        exact ⟨rfl, HW8.out⟩
      · have HE := Lib.hid (HF.out.1 he)
        have hne : ((e : Int) == 0) = false := by simp; omega
        clear HF HS HX7 HV7
        go_wp2
        go_ret
        rw [HE.out]
        exact ⟨rfl, HW7.out⟩
set_option maxHeartbeats 4000000 in
set_option maxRecDepth 100000 in
theorem rf_zz (xs : List Int) (hln : xs.length = ln) (hl100 : (ln : Int) ≤ 100) (k1 : ¬ op < 0) (k2 : ¬ 511 < op) (hi : Ints w w.heap.size LA xs) (hnil : LA = none → lc = 0) (hlc : ln ≤ lc) (bs : List Nat) (kb : Nat) (y : Ins) (q e : Nat) (R : Bool)
    (HP : Hid (∀ W, Calls Try.prog 27 #[.int .i64 op] W (PatIs W ⟨#[122, 122]⟩)))
    (HF1 : Hid (¬ (∀ n ∈ b :: xs, fitsU n) → R = false)) (HF2 : Hid (¬ (fitsU a) → R = false))
    (HBY : Hid ((∀ n ∈ b :: xs, fitsU n) → fitsU a → ∀ W, Below w.heap.size w W → Calls Try.prog 16 #[.agg #[.int .i64 op, .int .i64 a, .int .i64 b, .int .i64 k, .slice LA ln lc]] W (GivesB W bs kb)))
    (HO : Hid (∀ A c W, Bytes W W.heap.size A bs → kb ≤ c → Calls Try.prog 29 #[.slice A kb c, .int .i64 0] W (OneW W (y, q, e))))
    (HF3 : Hid ((∀ n ∈ b :: xs, fitsU n) → fitsU a → (e ≠ 0 → R = false) ∧ (e = 0 → R = decide ((⟨op, a, b, k, xs⟩ : Ins) = y))))
    (HS : Hid (∀ W v v', InsV W v ⟨op, a, b, k, xs⟩ → InsV W v' y → Calls Try.prog 23 #[v, v'] W (Tells W (decide ((⟨op, a, b, k, xs⟩ : Ins) = y))))) :
    Calls Try.prog 12 #[.agg #[.int .i64 op, .int .i64 a, .int .i64 b, .int .i64 k, .slice LA ln lc]] w (Tells w R) := by
  have HB := Lib.hid (b5_of (Below.refl w.heap.size w) op a b k LA ln lc 25)
  have HI := Lib.hid (And.intro hi (And.intro hnil hlc))
  have HLN := Lib.hid hln
  clear hi hnil hlc hln
  go_enter Try.func12, Try.ntmps12
  go_wp2_with fail
  refine (HP.out _).mono ?_
  rintro en w1 ⟨rfl, hb1⟩
  have HB1 := Lib.hid (HB.out.keep hb1)
  have hlb : Below w1.heap.size w1 (w1.alloc (.cells #[.int .i64 b] 3)) := (Below.refl _ _).alloc (Nat.le_refl _) _
  have HX := Lib.hid (And.intro (lit_int w1 b) (And.intro ((HI.out.1.below HB1.out.below).below (hlb.mono HB1.out.below.size)) hlb.size))
  have HKP : Hid (∀ W, Below w1.heap.size (w1.alloc (.cells #[.int .i64 b] 3)) W → B5 w W w.heap.size op a b k LA ln lc) := Lib.hid fun W hW => (HB1.out.keep (hlb.trans hW))
  have hk101 : ([b] ++ xs).length = ln + 1 := by rw [List.length_append, HLN.out]; simp; omega
  have HK1 := Lib.hid hk101
  have hbound : ln + 1 ≤ 1000000 := by omega
  clear HP HB hb1 hlb hk101
  obtain ⟨hbw, hz, d0, d1, d2, d3, d4⟩ := HB1.out
  go_wp2_with (at_builtin; refine app_ints rfl (.tmp 30) (.tmp 32) rfl w1.heap.size _ [b] rfl HX.out.1 LA xs ln lc _ (ln + 1) HLN.out rfl HX.out.2.1 HI.out.2.1 HK1.out hbound HX.out.2.2 ?_; intro A4 c4 w4 hown4 hb4)
  have HB4 := Lib.hid (HKP.out w4 hb4)
  obtain ⟨A5, c5, hs5, hints, _, _⟩ := hown4.ints
  rw [HK1.out] at hs5
  simp only [Value.slice.injEq, true_and] at hs5
  obtain ⟨rfl, rfl⟩ := hs5
  have HI4 := Lib.hid hints
  clear HX HKP HB1 hbw hz d0 d1 d2 d3 d4 hown4 hb4 hints
  go_loopw [35] (fun x35 wr => ∃ j : Nat, j ≤ ln + 1 ∧ x35 = .int .i64 (j : Int) ∧ wr = w4 ∧ Hid (∀ n ∈ ([b] ++ xs).take j, fitsU n)) (fun i _ => ln + 1 - (intOf i).toNat)
  case atStart => exact ⟨0, Nat.zero_le _, by go_num, rfl, Lib.hid (by simp)⟩
  case round =>
    obtain ⟨j, hj, rfl, rfl, HJ⟩ := hrel
    have HW := Lib.hid HB4.out.below
    by_cases hjl : j < ln + 1
    · have hji : (j : Int) < ((ln + 1 : Nat) : Int) := by omega
      have hjx : j < ([b] ++ xs).length := by have := HK1.out; omega
      obtain ⟨bb, off, rfl, _, hc⟩ := HI4.out (by omega)
      have hcj := hc j hjx
      have hmem : ([b] ++ xs)[j] ∈ b :: xs := List.getElem_mem hjx
      have HNX : Hid (fitsU ([b] ++ xs)[j] → ∀ n ∈ ([b] ++ xs).take (j + 1), fitsU n) := Lib.hid fun hf => by
        rw [List.take_succ_eq_append_getElem hjx]
        intro n hn
        rcases List.mem_append.1 hn with h | h
        · exact HJ.out n h
        · rw [List.mem_singleton.1 h]; exact hf
      have HBD : Hid (¬ fitsU ([b] ++ xs)[j] → R = false) := Lib.hid fun hf => HF1.out fun h => hf (h _ hmem)
      clear hc HJ hmem
      generalize ([b] ++ xs)[j] = n at *
      by_cases hn0 : n < 0
      · have HE := Lib.hid (HBD.out (by unfold fitsU; omega))
        clear HNX HBD
        go_wp2
        go_ret
        rw [HE.out]
        exact ⟨rfl, HW.out⟩
      · by_cases hn1 : 4294967295 < n
        · have HE := Lib.hid (HBD.out (by unfold fitsU; omega))
          clear HNX HBD
          go_wp2
          go_ret
          rw [HE.out]
          exact ⟨rfl, HW.out⟩
        · have HJ2 := Lib.hid (HNX.out (by unfold fitsU; omega))
          clear HNX HBD
          go_wp2
          go_roundw
          case rel => exact ⟨j + 1, by omega, by go_num, by trivial, HJ2⟩
          case measure => simp [intOf]; omega
    · obtain rfl : j = ln + 1 := by omega
      have hji : ¬ ((ln + 1 : Nat) : Int) < ((ln + 1 : Nat) : Int) := by omega
      have hall : ∀ n ∈ b :: xs, fitsU n := by have := HJ.out; rw [List.take_of_length_le (by rw [HK1.out]; exact Nat.le_refl _)] at this; exact this
      have HALL := Lib.hid hall
      obtain ⟨hbw, hz, d0, d1, d2, d3, d4⟩ := HB4.out
      clear HJ hall HI4
      by_cases ha0 : a < 0
      · have HE := Lib.hid (HF2.out (by unfold fitsU; omega))
        clear HBY HO HF3 HS
        go_wp2
        go_ret
        rw [HE.out]
        exact ⟨rfl, HW.out⟩
      by_cases ha1 : 4294967295 < a
      · have HE := Lib.hid (HF2.out (by unfold fitsU; omega))
        clear HBY HO HF3 HS
        go_wp2
        go_ret
        rw [HE.out]
        exact ⟨rfl, HW.out⟩
      have HA : Hid (fitsU a) := Lib.hid (by unfold fitsU; omega)
      have HF := Lib.hid (HF3.out HALL.out HA.out)
      have HBB := Lib.hid (HBY.out HALL.out HA.out)
      have hbw4 := HB4.out.below
      clear HBY HF3
      go_wp2_with fail
      refine (HBB.out _ HW.out).mono ?_
      rintro en w5 ⟨A5, c5, rfl, hown5, hB5, hn5, hc5, hb5⟩
      have HB5 := Lib.hid (HB4.out.keep hb5)
      clear HBB hown5 hb5 hbw hz d0 d1 d2 d3 d4 hbw4
      go_wp2_with fail
      refine (HO.out _ _ _ hB5 hc5).mono ?_
      rintro en w6 ⟨A6, c6, n6, hn6, rfl, hown6, hb6⟩
      have hb7 : Below w5.heap.size w5 (w6.alloc (.cells #[.int .i64 y.op, .int .i64 y.a, .int .i64 y.b, .int .i64 y.k, .slice A6 n6 c6] 25)) := hb6.alloc hb6.size _
      have HB7 := Lib.hid (HB5.out.keep hb7)
      have HV7 : Hid (InsV (w6.alloc (.cells #[.int .i64 y.op, .int .i64 y.a, .int .i64 y.b, .int .i64 y.k, .slice A6 n6 c6] 25)) (.agg #[.int .i64 y.op, .int .i64 y.a, .int .i64 y.b, .int .i64 y.k, .slice A6 n6 c6]) y) := Lib.hid (by
        obtain ⟨A8, c8, h8, hi8, hl8, hn8⟩ := hown6.ints
        simp only [Value.slice.injEq] at h8
        obtain ⟨rfl, rfl, rfl⟩ := h8
        exact InsV.below ⟨_, _, rfl, hi8, hl8, hn8⟩ ((Below.refl _ _).alloc (Nat.le_refl _) _))
      have HX7 : Hid (InsV (w6.alloc (.cells #[.int .i64 y.op, .int .i64 y.a, .int .i64 y.b, .int .i64 y.k, .slice A6 n6 c6] 25)) (.agg #[.int .i64 op, .int .i64 a, .int .i64 b, .int .i64 k, .slice LA ln lc]) ⟨op, a, b, k, xs⟩) := Lib.hid (InsV.below ⟨LA, lc, by rw [HLN.out], HI.out.1, by simp only; rw [HLN.out]; exact HI.out.2.2, HI.out.2.1⟩ HB7.out.below)
      have HW7 := Lib.hid HB7.out.below
      clear hb6 hb7 hown6 hn6 HB5 HO HI HLN
      obtain ⟨_, _, d0, d1, d2, d3, d4⟩ := HB7.out
      by_cases he : e = 0
      · subst he
        have HE := Lib.hid (HF.out.2 rfl)
        clear HF
        go_wp2_with fail
        refine (HS.out _ _ _ HX7.out HV7.out).mono ?_
        rintro en w8 ⟨rfl, hb8⟩
        have HW8 := Lib.hid (HW7.out.trans (hb8.mono HW7.out.size))
        clear HS hb8 HX7 HV7 d0 d1 d2 d3 d4
        generalize decide ((⟨op, a, b, k, xs⟩ : Ins) = y) = rb at *
        go_wp2
        go_ret
        rw [HE.out]
        exact ⟨rfl, HW8.out⟩
      · have HE := Lib.hid (HF.out.1 he)
        have hne : ((e : Int) == 0) = false := by simp; omega
        clear HF HS HX7 HV7
        go_wp2
        go_ret
        rw [HE.out]
        exact ⟨rfl, HW7.out⟩
set_option maxHeartbeats 4000000 in
set_option maxRecDepth 100000 in
theorem rf_k (xs : List Int) (hln : xs.length = ln) (hl100 : (ln : Int) ≤ 100) (k1 : ¬ op < 0) (k2 : ¬ 511 < op) (hi : Ints w w.heap.size LA xs) (hnil : LA = none → lc = 0) (hlc : ln ≤ lc) (bs : List Nat) (kb : Nat) (y : Ins) (q e : Nat) (R : Bool)
    (HP : Hid (∀ W, Calls Try.prog 27 #[.int .i64 op] W (PatIs W ⟨#[107]⟩)))
    (HF1 : Hid (¬ (∀ n ∈ b :: xs, fitsU n) → R = false)) (HF2 : Hid (¬ (fitsU a) → R = false))
    (HBY : Hid ((∀ n ∈ b :: xs, fitsU n) → fitsU a → ∀ W, Below w.heap.size w W → Calls Try.prog 16 #[.agg #[.int .i64 op, .int .i64 a, .int .i64 b, .int .i64 k, .slice LA ln lc]] W (GivesB W bs kb)))
    (HO : Hid (∀ A c W, Bytes W W.heap.size A bs → kb ≤ c → Calls Try.prog 29 #[.slice A kb c, .int .i64 0] W (OneW W (y, q, e))))
    (HF3 : Hid ((∀ n ∈ b :: xs, fitsU n) → fitsU a → (e ≠ 0 → R = false) ∧ (e = 0 → R = decide ((⟨op, a, b, k, xs⟩ : Ins) = y))))
    (HS : Hid (∀ W v v', InsV W v ⟨op, a, b, k, xs⟩ → InsV W v' y → Calls Try.prog 23 #[v, v'] W (Tells W (decide ((⟨op, a, b, k, xs⟩ : Ins) = y))))) :
    Calls Try.prog 12 #[.agg #[.int .i64 op, .int .i64 a, .int .i64 b, .int .i64 k, .slice LA ln lc]] w (Tells w R) := by
  have HB := Lib.hid (b5_of (Below.refl w.heap.size w) op a b k LA ln lc 25)
  have HI := Lib.hid (And.intro hi (And.intro hnil hlc))
  have HLN := Lib.hid hln
  clear hi hnil hlc hln
  go_enter Try.func12, Try.ntmps12
  go_wp2_with fail
  refine (HP.out _).mono ?_
  rintro en w1 ⟨rfl, hb1⟩
  have HB1 := Lib.hid (HB.out.keep hb1)
  have hlb : Below w1.heap.size w1 (w1.alloc (.cells #[.int .i64 b] 3)) := (Below.refl _ _).alloc (Nat.le_refl _) _
  have HX := Lib.hid (And.intro (lit_int w1 b) (And.intro ((HI.out.1.below HB1.out.below).below (hlb.mono HB1.out.below.size)) hlb.size))
  have HKP : Hid (∀ W, Below w1.heap.size (w1.alloc (.cells #[.int .i64 b] 3)) W → B5 w W w.heap.size op a b k LA ln lc) := Lib.hid fun W hW => (HB1.out.keep (hlb.trans hW))
  have hk101 : ([b] ++ xs).length = ln + 1 := by rw [List.length_append, HLN.out]; simp; omega
  have HK1 := Lib.hid hk101
  have hbound : ln + 1 ≤ 1000000 := by omega
  clear HP HB hb1 hlb hk101
  obtain ⟨hbw, hz, d0, d1, d2, d3, d4⟩ := HB1.out
  go_wp2_with (at_builtin; refine app_ints rfl (.tmp 30) (.tmp 32) rfl w1.heap.size _ [b] rfl HX.out.1 LA xs ln lc _ (ln + 1) HLN.out rfl HX.out.2.1 HI.out.2.1 HK1.out hbound HX.out.2.2 ?_; intro A4 c4 w4 hown4 hb4)
  have HB4 := Lib.hid (HKP.out w4 hb4)
  obtain ⟨A5, c5, hs5, hints, _, _⟩ := hown4.ints
  rw [HK1.out] at hs5
  simp only [Value.slice.injEq, true_and] at hs5
  obtain ⟨rfl, rfl⟩ := hs5
  have HI4 := Lib.hid hints
  clear HX HKP HB1 hbw hz d0 d1 d2 d3 d4 hown4 hb4 hints
  go_loopw [35] (fun x35 wr => ∃ j : Nat, j ≤ ln + 1 ∧ x35 = .int .i64 (j : Int) ∧ wr = w4 ∧ Hid (∀ n ∈ ([b] ++ xs).take j, fitsU n)) (fun i _ => ln + 1 - (intOf i).toNat)
  case atStart => exact ⟨0, Nat.zero_le _, by go_num, rfl, Lib.hid (by simp)⟩
  case round =>
    obtain ⟨j, hj, rfl, rfl, HJ⟩ := hrel
    have HW := Lib.hid HB4.out.below
    by_cases hjl : j < ln + 1
    · have hji : (j : Int) < ((ln + 1 : Nat) : Int) := by omega
      have hjx : j < ([b] ++ xs).length := by have := HK1.out; omega
      obtain ⟨bb, off, rfl, _, hc⟩ := HI4.out (by omega)
      have hcj := hc j hjx
      have hmem : ([b] ++ xs)[j] ∈ b :: xs := List.getElem_mem hjx
      have HNX : Hid (fitsU ([b] ++ xs)[j] → ∀ n ∈ ([b] ++ xs).take (j + 1), fitsU n) := Lib.hid fun hf => by
        rw [List.take_succ_eq_append_getElem hjx]
        intro n hn
        rcases List.mem_append.1 hn with h | h
        · exact HJ.out n h
        · rw [List.mem_singleton.1 h]; exact hf
      have HBD : Hid (¬ fitsU ([b] ++ xs)[j] → R = false) := Lib.hid fun hf => HF1.out fun h => hf (h _ hmem)
      clear hc HJ hmem
      generalize ([b] ++ xs)[j] = n at *
      by_cases hn0 : n < 0
      · have HE := Lib.hid (HBD.out (by unfold fitsU; omega))
        clear HNX HBD
        go_wp2
        go_ret
        rw [HE.out]
        exact ⟨rfl, HW.out⟩
      · by_cases hn1 : 4294967295 < n
        · have HE := Lib.hid (HBD.out (by unfold fitsU; omega))
          clear HNX HBD
          go_wp2
          go_ret
          rw [HE.out]
          exact ⟨rfl, HW.out⟩
        · have HJ2 := Lib.hid (HNX.out (by unfold fitsU; omega))
          clear HNX HBD
          go_wp2
          go_roundw
          case rel => exact ⟨j + 1, by omega, by go_num, by trivial, HJ2⟩
          case measure => simp [intOf]; omega
    · obtain rfl : j = ln + 1 := by omega
      have hji : ¬ ((ln + 1 : Nat) : Int) < ((ln + 1 : Nat) : Int) := by omega
      have hall : ∀ n ∈ b :: xs, fitsU n := by have := HJ.out; rw [List.take_of_length_le (by rw [HK1.out]; exact Nat.le_refl _)] at this; exact this
      have HALL := Lib.hid hall
      obtain ⟨hbw, hz, d0, d1, d2, d3, d4⟩ := HB4.out
      clear HJ hall HI4
      by_cases ha0 : a < 0
      · have HE := Lib.hid (HF2.out (by unfold fitsU; omega))
        clear HBY HO HF3 HS
        go_wp2
        go_ret
        rw [HE.out]
        exact ⟨rfl, HW.out⟩
      by_cases ha1 : 4294967295 < a
      · have HE := Lib.hid (HF2.out (by unfold fitsU; omega))
        clear HBY HO HF3 HS
        go_wp2
        go_ret
        rw [HE.out]
        exact ⟨rfl, HW.out⟩
      have HA : Hid (fitsU a) := Lib.hid (by unfold fitsU; omega)
      have HF := Lib.hid (HF3.out HALL.out HA.out)
      have HBB := Lib.hid (HBY.out HALL.out HA.out)
      have hbw4 := HB4.out.below
      clear HBY HF3
      go_wp2_with fail
      refine (HBB.out _ HW.out).mono ?_
      rintro en w5 ⟨A5, c5, rfl, hown5, hB5, hn5, hc5, hb5⟩
      have HB5 := Lib.hid (HB4.out.keep hb5)
      clear HBB hown5 hb5 hbw hz d0 d1 d2 d3 d4 hbw4
      go_wp2_with fail
      refine (HO.out _ _ _ hB5 hc5).mono ?_
      rintro en w6 ⟨A6, c6, n6, hn6, rfl, hown6, hb6⟩
      have hb7 : Below w5.heap.size w5 (w6.alloc (.cells #[.int .i64 y.op, .int .i64 y.a, .int .i64 y.b, .int .i64 y.k, .slice A6 n6 c6] 25)) := hb6.alloc hb6.size _
      have HB7 := Lib.hid (HB5.out.keep hb7)
      have HV7 : Hid (InsV (w6.alloc (.cells #[.int .i64 y.op, .int .i64 y.a, .int .i64 y.b, .int .i64 y.k, .slice A6 n6 c6] 25)) (.agg #[.int .i64 y.op, .int .i64 y.a, .int .i64 y.b, .int .i64 y.k, .slice A6 n6 c6]) y) := Lib.hid (by
        obtain ⟨A8, c8, h8, hi8, hl8, hn8⟩ := hown6.ints
        simp only [Value.slice.injEq] at h8
        obtain ⟨rfl, rfl, rfl⟩ := h8
        exact InsV.below ⟨_, _, rfl, hi8, hl8, hn8⟩ ((Below.refl _ _).alloc (Nat.le_refl _) _))
      have HX7 : Hid (InsV (w6.alloc (.cells #[.int .i64 y.op, .int .i64 y.a, .int .i64 y.b, .int .i64 y.k, .slice A6 n6 c6] 25)) (.agg #[.int .i64 op, .int .i64 a, .int .i64 b, .int .i64 k, .slice LA ln lc]) ⟨op, a, b, k, xs⟩) := Lib.hid (InsV.below ⟨LA, lc, by rw [HLN.out], HI.out.1, by simp only; rw [HLN.out]; exact HI.out.2.2, HI.out.2.1⟩ HB7.out.below)
      have HW7 := Lib.hid HB7.out.below
      clear hb6 hb7 hown6 hn6 HB5 HO HI HLN
      obtain ⟨_, _, d0, d1, d2, d3, d4⟩ := HB7.out
      by_cases he : e = 0
      · subst he
        have HE := Lib.hid (HF.out.2 rfl)
        clear HF
        go_wp2_with fail
        refine (HS.out _ _ _ HX7.out HV7.out).mono ?_
        rintro en w8 ⟨rfl, hb8⟩
        have HW8 := Lib.hid (HW7.out.trans (hb8.mono HW7.out.size))
        clear HS hb8 HX7 HV7 d0 d1 d2 d3 d4
        generalize decide ((⟨op, a, b, k, xs⟩ : Ins) = y) = rb at *
        go_wp2
        go_ret
        rw [HE.out]
        exact ⟨rfl, HW8.out⟩
      · have HE := Lib.hid (HF.out.1 he)
        have hne : ((e : Int) == 0) = false := by simp; omega
        clear HF HS HX7 HV7
        go_wp2
        go_ret
        rw [HE.out]
        exact ⟨rfl, HW7.out⟩
set_option maxHeartbeats 4000000 in
set_option maxRecDepth 100000 in
theorem rf_kk (xs : List Int) (hln : xs.length = ln) (hl100 : (ln : Int) ≤ 100) (k1 : ¬ op < 0) (k2 : ¬ 511 < op) (hi : Ints w w.heap.size LA xs) (hnil : LA = none → lc = 0) (hlc : ln ≤ lc) (bs : List Nat) (kb : Nat) (y : Ins) (q e : Nat) (R : Bool)
    (HP : Hid (∀ W, Calls Try.prog 27 #[.int .i64 op] W (PatIs W ⟨#[113]⟩)))
    (HF1 : Hid (¬ (∀ n ∈ b :: xs, fitsU n) → R = false)) (HF2 : Hid (¬ (fitsU a) → R = false))
    (HBY : Hid ((∀ n ∈ b :: xs, fitsU n) → fitsU a → ∀ W, Below w.heap.size w W → Calls Try.prog 16 #[.agg #[.int .i64 op, .int .i64 a, .int .i64 b, .int .i64 k, .slice LA ln lc]] W (GivesB W bs kb)))
    (HO : Hid (∀ A c W, Bytes W W.heap.size A bs → kb ≤ c → Calls Try.prog 29 #[.slice A kb c, .int .i64 0] W (OneW W (y, q, e))))
    (HF3 : Hid ((∀ n ∈ b :: xs, fitsU n) → fitsU a → (e ≠ 0 → R = false) ∧ (e = 0 → R = decide ((⟨op, a, b, k, xs⟩ : Ins) = y))))
    (HS : Hid (∀ W v v', InsV W v ⟨op, a, b, k, xs⟩ → InsV W v' y → Calls Try.prog 23 #[v, v'] W (Tells W (decide ((⟨op, a, b, k, xs⟩ : Ins) = y))))) :
    Calls Try.prog 12 #[.agg #[.int .i64 op, .int .i64 a, .int .i64 b, .int .i64 k, .slice LA ln lc]] w (Tells w R) := by
  have HB := Lib.hid (b5_of (Below.refl w.heap.size w) op a b k LA ln lc 25)
  have HI := Lib.hid (And.intro hi (And.intro hnil hlc))
  have HLN := Lib.hid hln
  clear hi hnil hlc hln
  go_enter Try.func12, Try.ntmps12
  go_wp2_with fail
  refine (HP.out _).mono ?_
  rintro en w1 ⟨rfl, hb1⟩
  have HB1 := Lib.hid (HB.out.keep hb1)
  have hlb : Below w1.heap.size w1 (w1.alloc (.cells #[.int .i64 b] 3)) := (Below.refl _ _).alloc (Nat.le_refl _) _
  have HX := Lib.hid (And.intro (lit_int w1 b) (And.intro ((HI.out.1.below HB1.out.below).below (hlb.mono HB1.out.below.size)) hlb.size))
  have HKP : Hid (∀ W, Below w1.heap.size (w1.alloc (.cells #[.int .i64 b] 3)) W → B5 w W w.heap.size op a b k LA ln lc) := Lib.hid fun W hW => (HB1.out.keep (hlb.trans hW))
  have hk101 : ([b] ++ xs).length = ln + 1 := by rw [List.length_append, HLN.out]; simp; omega
  have HK1 := Lib.hid hk101
  have hbound : ln + 1 ≤ 1000000 := by omega
  clear HP HB hb1 hlb hk101
  obtain ⟨hbw, hz, d0, d1, d2, d3, d4⟩ := HB1.out
  go_wp2_with (at_builtin; refine app_ints rfl (.tmp 30) (.tmp 32) rfl w1.heap.size _ [b] rfl HX.out.1 LA xs ln lc _ (ln + 1) HLN.out rfl HX.out.2.1 HI.out.2.1 HK1.out hbound HX.out.2.2 ?_; intro A4 c4 w4 hown4 hb4)
  have HB4 := Lib.hid (HKP.out w4 hb4)
  obtain ⟨A5, c5, hs5, hints, _, _⟩ := hown4.ints
  rw [HK1.out] at hs5
  simp only [Value.slice.injEq, true_and] at hs5
  obtain ⟨rfl, rfl⟩ := hs5
  have HI4 := Lib.hid hints
  clear HX HKP HB1 hbw hz d0 d1 d2 d3 d4 hown4 hb4 hints
  go_loopw [35] (fun x35 wr => ∃ j : Nat, j ≤ ln + 1 ∧ x35 = .int .i64 (j : Int) ∧ wr = w4 ∧ Hid (∀ n ∈ ([b] ++ xs).take j, fitsU n)) (fun i _ => ln + 1 - (intOf i).toNat)
  case atStart => exact ⟨0, Nat.zero_le _, by go_num, rfl, Lib.hid (by simp)⟩
  case round =>
    obtain ⟨j, hj, rfl, rfl, HJ⟩ := hrel
    have HW := Lib.hid HB4.out.below
    by_cases hjl : j < ln + 1
    · have hji : (j : Int) < ((ln + 1 : Nat) : Int) := by omega
      have hjx : j < ([b] ++ xs).length := by have := HK1.out; omega
      obtain ⟨bb, off, rfl, _, hc⟩ := HI4.out (by omega)
      have hcj := hc j hjx
      have hmem : ([b] ++ xs)[j] ∈ b :: xs := List.getElem_mem hjx
      have HNX : Hid (fitsU ([b] ++ xs)[j] → ∀ n ∈ ([b] ++ xs).take (j + 1), fitsU n) := Lib.hid fun hf => by
        rw [List.take_succ_eq_append_getElem hjx]
        intro n hn
        rcases List.mem_append.1 hn with h | h
        · exact HJ.out n h
        · rw [List.mem_singleton.1 h]; exact hf
      have HBD : Hid (¬ fitsU ([b] ++ xs)[j] → R = false) := Lib.hid fun hf => HF1.out fun h => hf (h _ hmem)
      clear hc HJ hmem
      generalize ([b] ++ xs)[j] = n at *
      by_cases hn0 : n < 0
      · have HE := Lib.hid (HBD.out (by unfold fitsU; omega))
        clear HNX HBD
        go_wp2
        go_ret
        rw [HE.out]
        exact ⟨rfl, HW.out⟩
      · by_cases hn1 : 4294967295 < n
        · have HE := Lib.hid (HBD.out (by unfold fitsU; omega))
          clear HNX HBD
          go_wp2
          go_ret
          rw [HE.out]
          exact ⟨rfl, HW.out⟩
        · have HJ2 := Lib.hid (HNX.out (by unfold fitsU; omega))
          clear HNX HBD
          go_wp2
          go_roundw
          case rel => exact ⟨j + 1, by omega, by go_num, by trivial, HJ2⟩
          case measure => simp [intOf]; omega
    · obtain rfl : j = ln + 1 := by omega
      have hji : ¬ ((ln + 1 : Nat) : Int) < ((ln + 1 : Nat) : Int) := by omega
      have hall : ∀ n ∈ b :: xs, fitsU n := by have := HJ.out; rw [List.take_of_length_le (by rw [HK1.out]; exact Nat.le_refl _)] at this; exact this
      have HALL := Lib.hid hall
      obtain ⟨hbw, hz, d0, d1, d2, d3, d4⟩ := HB4.out
      clear HJ hall HI4
      by_cases ha0 : a < 0
      · have HE := Lib.hid (HF2.out (by unfold fitsU; omega))
        clear HBY HO HF3 HS
        go_wp2
        go_ret
        rw [HE.out]
        exact ⟨rfl, HW.out⟩
      by_cases ha1 : 4294967295 < a
      · have HE := Lib.hid (HF2.out (by unfold fitsU; omega))
        clear HBY HO HF3 HS
        go_wp2
        go_ret
        rw [HE.out]
        exact ⟨rfl, HW.out⟩
      have HA : Hid (fitsU a) := Lib.hid (by unfold fitsU; omega)
      have HF := Lib.hid (HF3.out HALL.out HA.out)
      have HBB := Lib.hid (HBY.out HALL.out HA.out)
      have hbw4 := HB4.out.below
      clear HBY HF3
      go_wp2_with fail
      refine (HBB.out _ HW.out).mono ?_
      rintro en w5 ⟨A5, c5, rfl, hown5, hB5, hn5, hc5, hb5⟩
      have HB5 := Lib.hid (HB4.out.keep hb5)
      clear HBB hown5 hb5 hbw hz d0 d1 d2 d3 d4 hbw4
      go_wp2_with fail
      refine (HO.out _ _ _ hB5 hc5).mono ?_
      rintro en w6 ⟨A6, c6, n6, hn6, rfl, hown6, hb6⟩
      have hb7 : Below w5.heap.size w5 (w6.alloc (.cells #[.int .i64 y.op, .int .i64 y.a, .int .i64 y.b, .int .i64 y.k, .slice A6 n6 c6] 25)) := hb6.alloc hb6.size _
      have HB7 := Lib.hid (HB5.out.keep hb7)
      have HV7 : Hid (InsV (w6.alloc (.cells #[.int .i64 y.op, .int .i64 y.a, .int .i64 y.b, .int .i64 y.k, .slice A6 n6 c6] 25)) (.agg #[.int .i64 y.op, .int .i64 y.a, .int .i64 y.b, .int .i64 y.k, .slice A6 n6 c6]) y) := Lib.hid (by
        obtain ⟨A8, c8, h8, hi8, hl8, hn8⟩ := hown6.ints
        simp only [Value.slice.injEq] at h8
        obtain ⟨rfl, rfl, rfl⟩ := h8
        exact InsV.below ⟨_, _, rfl, hi8, hl8, hn8⟩ ((Below.refl _ _).alloc (Nat.le_refl _) _))
      have HX7 : Hid (InsV (w6.alloc (.cells #[.int .i64 y.op, .int .i64 y.a, .int .i64 y.b, .int .i64 y.k, .slice A6 n6 c6] 25)) (.agg #[.int .i64 op, .int .i64 a, .int .i64 b, .int .i64 k, .slice LA ln lc]) ⟨op, a, b, k, xs⟩) := Lib.hid (InsV.below ⟨LA, lc, by rw [HLN.out], HI.out.1, by simp only; rw [HLN.out]; exact HI.out.2.2, HI.out.2.1⟩ HB7.out.below)
      have HW7 := Lib.hid HB7.out.below
      clear hb6 hb7 hown6 hn6 HB5 HO HI HLN
      obtain ⟨_, _, d0, d1, d2, d3, d4⟩ := HB7.out
      by_cases he : e = 0
      · subst he
        have HE := Lib.hid (HF.out.2 rfl)
        clear HF
        go_wp2_with fail
        refine (HS.out _ _ _ HX7.out HV7.out).mono ?_
        rintro en w8 ⟨rfl, hb8⟩
        have HW8 := Lib.hid (HW7.out.trans (hb8.mono HW7.out.size))
        clear HS hb8 HX7 HV7 d0 d1 d2 d3 d4
        generalize decide ((⟨op, a, b, k, xs⟩ : Ins) = y) = rb at *
        go_wp2
        go_ret
        rw [HE.out]
        exact ⟨rfl, HW8.out⟩
      · have HE := Lib.hid (HF.out.1 he)
        have hne : ((e : Int) == 0) = false := by simp; omega
        clear HF HS HX7 HV7
        go_wp2
        go_ret
        rw [HE.out]
        exact ⟨rfl, HW7.out⟩
set_option maxHeartbeats 4000000 in
set_option maxRecDepth 100000 in
theorem rf_az (xs : List Int) (hln : xs.length = ln) (hl100 : (ln : Int) ≤ 100) (k1 : ¬ op < 0) (k2 : ¬ 511 < op) (hi : Ints w w.heap.size LA xs) (hnil : LA = none → lc = 0) (hlc : ln ≤ lc) (bs : List Nat) (kb : Nat) (y : Ins) (q e : Nat) (R : Bool)
    (HP : Hid (∀ W, Calls Try.prog 27 #[.int .i64 op] W (PatIs W ⟨#[97, 122]⟩)))
    (HF1 : Hid (¬ (∀ n ∈ b :: xs, fitsU n) → R = false)) (HF2 : Hid (¬ (fitsU a) → R = false))
    (HBY : Hid ((∀ n ∈ b :: xs, fitsU n) → fitsU a → ∀ W, Below w.heap.size w W → Calls Try.prog 16 #[.agg #[.int .i64 op, .int .i64 a, .int .i64 b, .int .i64 k, .slice LA ln lc]] W (GivesB W bs kb)))
    (HO : Hid (∀ A c W, Bytes W W.heap.size A bs → kb ≤ c → Calls Try.prog 29 #[.slice A kb c, .int .i64 0] W (OneW W (y, q, e))))
    (HF3 : Hid ((∀ n ∈ b :: xs, fitsU n) → fitsU a → (e ≠ 0 → R = false) ∧ (e = 0 → R = decide ((⟨op, a, b, k, xs⟩ : Ins) = y))))
    (HS : Hid (∀ W v v', InsV W v ⟨op, a, b, k, xs⟩ → InsV W v' y → Calls Try.prog 23 #[v, v'] W (Tells W (decide ((⟨op, a, b, k, xs⟩ : Ins) = y))))) :
    Calls Try.prog 12 #[.agg #[.int .i64 op, .int .i64 a, .int .i64 b, .int .i64 k, .slice LA ln lc]] w (Tells w R) := by
  have HB := Lib.hid (b5_of (Below.refl w.heap.size w) op a b k LA ln lc 25)
  have HI := Lib.hid (And.intro hi (And.intro hnil hlc))
  have HLN := Lib.hid hln
  clear hi hnil hlc hln
  go_enter Try.func12, Try.ntmps12
  go_wp2_with fail
  refine (HP.out _).mono ?_
  rintro en w1 ⟨rfl, hb1⟩
  have HB1 := Lib.hid (HB.out.keep hb1)
  have hlb : Below w1.heap.size w1 (w1.alloc (.cells #[.int .i64 b] 3)) := (Below.refl _ _).alloc (Nat.le_refl _) _
  have HX := Lib.hid (And.intro (lit_int w1 b) (And.intro ((HI.out.1.below HB1.out.below).below (hlb.mono HB1.out.below.size)) hlb.size))
  have HKP : Hid (∀ W, Below w1.heap.size (w1.alloc (.cells #[.int .i64 b] 3)) W → B5 w W w.heap.size op a b k LA ln lc) := Lib.hid fun W hW => (HB1.out.keep (hlb.trans hW))
  have hk101 : ([b] ++ xs).length = ln + 1 := by rw [List.length_append, HLN.out]; simp; omega
  have HK1 := Lib.hid hk101
  have hbound : ln + 1 ≤ 1000000 := by omega
  clear HP HB hb1 hlb hk101
  obtain ⟨hbw, hz, d0, d1, d2, d3, d4⟩ := HB1.out
  go_wp2_with (at_builtin; refine app_ints rfl (.tmp 30) (.tmp 32) rfl w1.heap.size _ [b] rfl HX.out.1 LA xs ln lc _ (ln + 1) HLN.out rfl HX.out.2.1 HI.out.2.1 HK1.out hbound HX.out.2.2 ?_; intro A4 c4 w4 hown4 hb4)
  have HB4 := Lib.hid (HKP.out w4 hb4)
  obtain ⟨A5, c5, hs5, hints, _, _⟩ := hown4.ints
  rw [HK1.out] at hs5
  simp only [Value.slice.injEq, true_and] at hs5
  obtain ⟨rfl, rfl⟩ := hs5
  have HI4 := Lib.hid hints
  clear HX HKP HB1 hbw hz d0 d1 d2 d3 d4 hown4 hb4 hints
  go_loopw [35] (fun x35 wr => ∃ j : Nat, j ≤ ln + 1 ∧ x35 = .int .i64 (j : Int) ∧ wr = w4 ∧ Hid (∀ n ∈ ([b] ++ xs).take j, fitsU n)) (fun i _ => ln + 1 - (intOf i).toNat)
  case atStart => exact ⟨0, Nat.zero_le _, by go_num, rfl, Lib.hid (by simp)⟩
  case round =>
    obtain ⟨j, hj, rfl, rfl, HJ⟩ := hrel
    have HW := Lib.hid HB4.out.below
    by_cases hjl : j < ln + 1
    · have hji : (j : Int) < ((ln + 1 : Nat) : Int) := by omega
      have hjx : j < ([b] ++ xs).length := by have := HK1.out; omega
      obtain ⟨bb, off, rfl, _, hc⟩ := HI4.out (by omega)
      have hcj := hc j hjx
      have hmem : ([b] ++ xs)[j] ∈ b :: xs := List.getElem_mem hjx
      have HNX : Hid (fitsU ([b] ++ xs)[j] → ∀ n ∈ ([b] ++ xs).take (j + 1), fitsU n) := Lib.hid fun hf => by
        rw [List.take_succ_eq_append_getElem hjx]
        intro n hn
        rcases List.mem_append.1 hn with h | h
        · exact HJ.out n h
        · rw [List.mem_singleton.1 h]; exact hf
      have HBD : Hid (¬ fitsU ([b] ++ xs)[j] → R = false) := Lib.hid fun hf => HF1.out fun h => hf (h _ hmem)
      clear hc HJ hmem
      generalize ([b] ++ xs)[j] = n at *
      by_cases hn0 : n < 0
      · have HE := Lib.hid (HBD.out (by unfold fitsU; omega))
        clear HNX HBD
        go_wp2
        go_ret
        rw [HE.out]
        exact ⟨rfl, HW.out⟩
      · by_cases hn1 : 4294967295 < n
        · have HE := Lib.hid (HBD.out (by unfold fitsU; omega))
          clear HNX HBD
          go_wp2
          go_ret
          rw [HE.out]
          exact ⟨rfl, HW.out⟩
        · have HJ2 := Lib.hid (HNX.out (by unfold fitsU; omega))
          clear HNX HBD
          go_wp2
          go_roundw
          case rel => exact ⟨j + 1, by omega, by go_num, by trivial, HJ2⟩
          case measure => simp [intOf]; omega
    · obtain rfl : j = ln + 1 := by omega
      have hji : ¬ ((ln + 1 : Nat) : Int) < ((ln + 1 : Nat) : Int) := by omega
      have hall : ∀ n ∈ b :: xs, fitsU n := by have := HJ.out; rw [List.take_of_length_le (by rw [HK1.out]; exact Nat.le_refl _)] at this; exact this
      have HALL := Lib.hid hall
      obtain ⟨hbw, hz, d0, d1, d2, d3, d4⟩ := HB4.out
      clear HJ hall HI4
      by_cases ha0 : a < 0
      · have HE := Lib.hid (HF2.out (by unfold fitsU; omega))
        clear HBY HO HF3 HS
        go_wp2
        go_ret
        rw [HE.out]
        exact ⟨rfl, HW.out⟩
      by_cases ha1 : 4294967295 < a
      · have HE := Lib.hid (HF2.out (by unfold fitsU; omega))
        clear HBY HO HF3 HS
        go_wp2
        go_ret
        rw [HE.out]
        exact ⟨rfl, HW.out⟩
      have HA : Hid (fitsU a) := Lib.hid (by unfold fitsU; omega)
      have HF := Lib.hid (HF3.out HALL.out HA.out)
      have HBB := Lib.hid (HBY.out HALL.out HA.out)
      have hbw4 := HB4.out.below
      clear HBY HF3
      go_wp2_with fail
      refine (HBB.out _ HW.out).mono ?_
      rintro en w5 ⟨A5, c5, rfl, hown5, hB5, hn5, hc5, hb5⟩
      have HB5 := Lib.hid (HB4.out.keep hb5)
      clear HBB hown5 hb5 hbw hz d0 d1 d2 d3 d4 hbw4
      go_wp2_with fail
      refine (HO.out _ _ _ hB5 hc5).mono ?_
      rintro en w6 ⟨A6, c6, n6, hn6, rfl, hown6, hb6⟩
      have hb7 : Below w5.heap.size w5 (w6.alloc (.cells #[.int .i64 y.op, .int .i64 y.a, .int .i64 y.b, .int .i64 y.k, .slice A6 n6 c6] 25)) := hb6.alloc hb6.size _
      have HB7 := Lib.hid (HB5.out.keep hb7)
      have HV7 : Hid (InsV (w6.alloc (.cells #[.int .i64 y.op, .int .i64 y.a, .int .i64 y.b, .int .i64 y.k, .slice A6 n6 c6] 25)) (.agg #[.int .i64 y.op, .int .i64 y.a, .int .i64 y.b, .int .i64 y.k, .slice A6 n6 c6]) y) := Lib.hid (by
        obtain ⟨A8, c8, h8, hi8, hl8, hn8⟩ := hown6.ints
        simp only [Value.slice.injEq] at h8
        obtain ⟨rfl, rfl, rfl⟩ := h8
        exact InsV.below ⟨_, _, rfl, hi8, hl8, hn8⟩ ((Below.refl _ _).alloc (Nat.le_refl _) _))
      have HX7 : Hid (InsV (w6.alloc (.cells #[.int .i64 y.op, .int .i64 y.a, .int .i64 y.b, .int .i64 y.k, .slice A6 n6 c6] 25)) (.agg #[.int .i64 op, .int .i64 a, .int .i64 b, .int .i64 k, .slice LA ln lc]) ⟨op, a, b, k, xs⟩) := Lib.hid (InsV.below ⟨LA, lc, by rw [HLN.out], HI.out.1, by simp only; rw [HLN.out]; exact HI.out.2.2, HI.out.2.1⟩ HB7.out.below)
      have HW7 := Lib.hid HB7.out.below
      clear hb6 hb7 hown6 hn6 HB5 HO HI HLN
      obtain ⟨_, _, d0, d1, d2, d3, d4⟩ := HB7.out
      by_cases he : e = 0
      · subst he
        have HE := Lib.hid (HF.out.2 rfl)
        clear HF
        go_wp2_with fail
        refine (HS.out _ _ _ HX7.out HV7.out).mono ?_
        rintro en w8 ⟨rfl, hb8⟩
        have HW8 := Lib.hid (HW7.out.trans (hb8.mono HW7.out.size))
        clear HS hb8 HX7 HV7 d0 d1 d2 d3 d4
        generalize decide ((⟨op, a, b, k, xs⟩ : Ins) = y) = rb at *
        go_wp2
        go_ret
        rw [HE.out]
        exact ⟨rfl, HW8.out⟩
      · have HE := Lib.hid (HF.out.1 he)
        have hne : ((e : Int) == 0) = false := by simp; omega
        clear HF HS HX7 HV7
        go_wp2
        go_ret
        rw [HE.out]
        exact ⟨rfl, HW7.out⟩
end
end Go.Proofs.Ytdipgokbfjbgfaa.Ins
namespace Go.Proofs.Ytdipgokbfjbgfaa.Ins
open Go.RowKit Leb Typ

theorem fits_bytes (x : Ins) (qs : List Part) (hp : pat x.op = some (some qs)) (hl : x.l.length ≤ 100) : (insBytes x).length ≤ 5000 ∧ ∀ y ∈ insBytes x, y < 256 := by
  have hr := pat_range x.op qs hp
  obtain ⟨o, ho⟩ : ∃ o : Nat, x.op = (o : Int) := ⟨x.op.toNat, by omega⟩
  have e : insBytes x = headBytes (o : Int) ++ (partChars qs).flatMap (chBytes x) := by rw [chBytes_parts]; unfold insBytes; rw [hp, ho]; rfl
  rw [e]
  exact ⟨ib_len o x _ hl (partChars_len qs (pat_len _ _ hp)).2, bytes_lt o x _ (by omega)⟩
theorem labs_le (bs : List Nat) (n p : Nat) : (readLabels bs n p).1.length ≤ n := by
  induction n generalizing p with
  | zero => simp [readLabels]
  | succ n ih =>
    simp only [readLabels]
    split
    · simp
    · split
      · simp
      · simp only [List.length_cons]
        have := ih (p + (uRes (bs.drop p) 32).2.1)
        omega
theorem part_labs (bs : List Nat) (p : Nat) (x : Ins) (r : Part) (h : x.l.length ≤ 64) : (readPart bs p x r).1.l.length ≤ 64 := by
  cases r with
  | t => exact h
  | a => exact h
  | b => exact h
  | k => exact h
  | kk => exact h
  | z => exact h
  | l =>
    simp only [readPart]
    split
    · exact h
    · split
      · exact h
      · have := labs_le bs (uRes (bs.drop p) 32).1 (p + (uRes (bs.drop p) 32).2.1)
        simp only
        omega
theorem parts_labs (bs : List Nat) (qs : List Part) (p : Nat) (x : Ins) (h : x.l.length ≤ 64) : (readParts bs qs p x).1.l.length ≤ 64 := by
  induction qs generalizing p x with
  | nil => exact h
  | cons r rs ih =>
    simp only [readParts]
    split
    · simp [zeroIns]
    · exact ih _ _ (part_labs bs p x r h)
theorem rest_labs (bs : List Nat) (op : Int) (p : Nat) : (readRest bs op p).1.l.length ≤ 64 := by
  unfold readRest
  cases pat op with
  | none => simp [zeroIns]
  | some o =>
    cases o with
    | none => simp [zeroIns]
    | some qs => exact parts_labs bs qs p _ (by simp [zeroIns])
theorem one_labs (bs : List Nat) (p : Nat) : (oneRes bs p).1.l.length ≤ 64 := by
  unfold oneRes
  split
  · simp [zeroIns]
  · split
    · split
      · simp [zeroIns]
      · split
        · simp [zeroIns]
        · exact rest_labs _ _ _
    · exact rest_labs _ _ _
theorem rformed_any (v : Value) (x : Ins) (w : World) (hv : InsV w v x) (hw : wide x) (hl : x.l.length ≤ 100) : Calls Try.prog 12 #[v] w (Tells w (formedB x)) := by
  obtain ⟨LA, lc, rfl, hi, hlc, hn⟩ := hv
  obtain ⟨op, a, b, k, l⟩ := x
  have hw' := hw
  obtain ⟨i0, i1, i2, i3, i4⟩ := hw'
  simp only at hi hlc hl i0 i1 i2 i3 i4 ⊢
  have HP := Lib.hid (fun W => pattern_any op W)
  cases hp : pat op with
  | none =>
    rw [show patStr op = ⟨#[]⟩ from by unfold patStr chars; rw [hp]] at HP
    rw [show formedB ⟨op, a, b, k, l⟩ = false from by unfold formedB; simp only; rw [hp]]
    exact rf_none w op a b k LA l.length lc HP
  | some oo =>
    cases oo with
    | none =>
      rw [show patStr op = ⟨#[63]⟩ from by unfold patStr chars; rw [hp]] at HP
      rw [show formedB ⟨op, a, b, k, l⟩ = false from by unfold formedB; simp only; rw [hp]]
      exact rf_wide w op a b k LA l.length lc HP
    | some qs =>
      have hr := pat_range op qs hp
      have hv2 : InsV w (.agg #[.int .i64 op, .int .i64 a, .int .i64 b, .int .i64 k, .slice LA l.length lc]) ⟨op, a, b, k, l⟩ := ⟨LA, lc, rfl, hi, hlc, hn⟩
      obtain ⟨y, q, e, hone⟩ : ∃ y q e, oneRes (insBytes ⟨op, a, b, k, l⟩) 0 = (y, q, e) := ⟨_, _, _, rfl⟩
      obtain ⟨bs, hbs⟩ : ∃ bs, insBytes ⟨op, a, b, k, l⟩ = bs := ⟨_, rfl⟩
      have hfb := fits_bytes ⟨op, a, b, k, l⟩ qs hp hl
      have HF1 : Hid (¬ (∀ n ∈ b :: l, fitsU n) → formedB ⟨op, a, b, k, l⟩ = false) := Lib.hid fun h => by
        apply Bool.eq_false_iff.2
        intro hf
        obtain ⟨qs', hq⟩ := formed_fits _ ((formedB_iff _).1 hf)
        exact h fun n hn => (List.mem_cons.1 hn).elim (fun e => by rw [e]; exact hq.b) (hq.l n)
      have HFA : ¬ (Part.t ∈ qs ∨ fitsU a) → formedB ⟨op, a, b, k, l⟩ = false := fun h => by
        apply Bool.eq_false_iff.2
        intro hf
        obtain ⟨qs', hq⟩ := formed_fits _ ((formedB_iff _).1 hf)
        have e : qs' = qs := by have := hq.pat; simp only at this; rw [hp] at this; simpa using this.symm
        rw [e] at hq
        exact h hq.a
      have HFT : Part.t ∈ qs → ¬ rightBlock a = true → formedB ⟨op, a, b, k, l⟩ = false := fun ht h => by
        apply Bool.eq_false_iff.2
        intro hf
        obtain ⟨qs', hq, hfit, _⟩ := (formedB_iff _).1 hf
        have e : qs' = qs := by simp only at hq; rw [hp] at hq; simpa using hq.symm
        rw [e] at hfit
        exact h (hfit .t ht)
      have HFB : (∀ n ∈ b :: l, fitsU n) → (Part.t ∈ qs ∨ fitsU a) → FitsB ⟨op, a, b, k, l⟩ qs := fun h ha => ⟨hp, ha, i1, h b (by simp), i3, fun n hn => h n (by simp [hn]), hl⟩
      have HBY : (∀ n ∈ b :: l, fitsU n) → (Part.t ∈ qs ∨ fitsU a) → ∀ W, Below w.heap.size w W → Calls Try.prog 16 #[.agg #[.int .i64 op, .int .i64 a, .int .i64 b, .int .i64 k, .slice LA l.length lc]] W (GivesB W bs bs.length) := fun h ha W hW => by
        have hq := HFB h ha
        have := gives_b (rbytes_any _ _ qs W (hv2.below hW) hq) hfb.2 rfl
        rw [hbs] at this
        exact this
      have HF3 : (∀ n ∈ b :: l, fitsU n) → (Part.t ∈ qs ∨ fitsU a) → (e ≠ 0 → formedB ⟨op, a, b, k, l⟩ = false) ∧ (e = 0 → formedB ⟨op, a, b, k, l⟩ = decide ((⟨op, a, b, k, l⟩ : Ins) = y)) := fun h ha => by
        have hq := HFB h ha
        have hfi := formed_iff ⟨op, a, b, k, l⟩ hfb.2
        rw [hone] at hfi
        refine ⟨fun he => ?_, fun he => ?_⟩
        · apply Bool.eq_false_iff.2
          intro hf
          obtain ⟨q', h'⟩ := hfi.1 ((formedB_iff _).1 hf)
          simp only [Prod.mk.injEq] at h'
          exact he h'.2.2
        · subst he
          apply Bool.eq_iff_iff.2
          rw [formedB_iff, hfi, decide_eq_true_iff]
          constructor
          · rintro ⟨q', h'⟩
            simp only [Prod.mk.injEq] at h'
            exact h'.1.symm
          · intro h'
            exact ⟨q, by rw [← h']⟩
      rw [hbs] at hone hfb
      have HO : Hid (∀ A c W, Bytes W W.heap.size A bs → bs.length ≤ c → Calls Try.prog 29 #[.slice A bs.length c, .int .i64 0] W (OneW W (y, q, e))) := Lib.hid fun A c W hB hc => by
        have := roneW_any A bs c 0 W hB hc (by omega)
        rw [hone] at this
        exact this
      have hy : y.l.length ≤ 64 := by have := one_labs bs 0; rw [hone] at this; exact this
      have HS : Hid (∀ W v v', InsV W v ⟨op, a, b, k, l⟩ → InsV W v' y → Calls Try.prog 23 #[v, v'] W (Tells W (decide ((⟨op, a, b, k, l⟩ : Ins) = y)))) := Lib.hid fun W v v' h1 h2 => same_any v v' _ y W h1 h2 (by simp only; omega) (by omega)
      have hm := pat_mem op qs hp
      simp only [List.mem_cons, List.not_mem_nil, or_false] at hm
      rcases hm with rfl | rfl | rfl | rfl | rfl | rfl | rfl | rfl | rfl | rfl
      · rw [show patStr op = ⟨#[46]⟩ from by unfold patStr chars; rw [hp]; rfl] at HP
        exact rf_bare w op a b k LA l.length lc l rfl (by omega) (by omega) (by omega) hi hn hlc bs _ y q e _ HP HF1 (Lib.hid fun h => HFA (fun h2 => h2.elim (by simp) h)) (Lib.hid fun h h2 => HBY h (.inr h2)) HO (Lib.hid fun h h2 => HF3 h (.inr h2)) HS
      · rw [show patStr op = ⟨#[116]⟩ from by unfold patStr chars; rw [hp]; rfl] at HP
        exact rf_t w op a b k LA l.length lc l rfl (by omega) (by omega) (by omega) hi hn hlc bs _ y q e _ HP HF1 (Lib.hid (HFT (by simp))) (Lib.hid fun W => rightBlock_any a W) (Lib.hid fun h _ => HBY h (.inl (by simp))) HO (Lib.hid fun h _ => HF3 h (.inl (by simp))) HS
      · rw [show patStr op = ⟨#[97]⟩ from by unfold patStr chars; rw [hp]; rfl] at HP
        exact rf_a w op a b k LA l.length lc l rfl (by omega) (by omega) (by omega) hi hn hlc bs _ y q e _ HP HF1 (Lib.hid fun h => HFA (fun h2 => h2.elim (by simp) h)) (Lib.hid fun h h2 => HBY h (.inr h2)) HO (Lib.hid fun h h2 => HF3 h (.inr h2)) HS
      · rw [show patStr op = ⟨#[108, 97]⟩ from by unfold patStr chars; rw [hp]; rfl] at HP
        exact rf_la w op a b k LA l.length lc l rfl (by omega) (by omega) (by omega) hi hn hlc bs _ y q e _ HP HF1 (Lib.hid fun h => HFA (fun h2 => h2.elim (by simp) h)) (Lib.hid fun h h2 => HBY h (.inr h2)) HO (Lib.hid fun h h2 => HF3 h (.inr h2)) HS
      · rw [show patStr op = ⟨#[97, 98]⟩ from by unfold patStr chars; rw [hp]; rfl] at HP
        exact rf_ab w op a b k LA l.length lc l rfl (by omega) (by omega) (by omega) hi hn hlc bs _ y q e _ HP HF1 (Lib.hid fun h => HFA (fun h2 => h2.elim (by simp) h)) (Lib.hid fun h h2 => HBY h (.inr h2)) HO (Lib.hid fun h h2 => HF3 h (.inr h2)) HS
      · rw [show patStr op = ⟨#[122]⟩ from by unfold patStr chars; rw [hp]; rfl] at HP
        exact rf_z w op a b k LA l.length lc l rfl (by omega) (by omega) (by omega) hi hn hlc bs _ y q e _ HP HF1 (Lib.hid fun h => HFA (fun h2 => h2.elim (by simp) h)) (Lib.hid fun h h2 => HBY h (.inr h2)) HO (Lib.hid fun h h2 => HF3 h (.inr h2)) HS
      · rw [show patStr op = ⟨#[122, 122]⟩ from by unfold patStr chars; rw [hp]; rfl] at HP
        exact rf_zz w op a b k LA l.length lc l rfl (by omega) (by omega) (by omega) hi hn hlc bs _ y q e _ HP HF1 (Lib.hid fun h => HFA (fun h2 => h2.elim (by simp) h)) (Lib.hid fun h h2 => HBY h (.inr h2)) HO (Lib.hid fun h h2 => HF3 h (.inr h2)) HS
      · rw [show patStr op = ⟨#[107]⟩ from by unfold patStr chars; rw [hp]; rfl] at HP
        exact rf_k w op a b k LA l.length lc l rfl (by omega) (by omega) (by omega) hi hn hlc bs _ y q e _ HP HF1 (Lib.hid fun h => HFA (fun h2 => h2.elim (by simp) h)) (Lib.hid fun h h2 => HBY h (.inr h2)) HO (Lib.hid fun h h2 => HF3 h (.inr h2)) HS
      · rw [show patStr op = ⟨#[113]⟩ from by unfold patStr chars; rw [hp]; rfl] at HP
        exact rf_kk w op a b k LA l.length lc l rfl (by omega) (by omega) (by omega) hi hn hlc bs _ y q e _ HP HF1 (Lib.hid fun h => HFA (fun h2 => h2.elim (by simp) h)) (Lib.hid fun h h2 => HBY h (.inr h2)) HO (Lib.hid fun h h2 => HF3 h (.inr h2)) HS
      · rw [show patStr op = ⟨#[97, 122]⟩ from by unfold patStr chars; rw [hp]; rfl] at HP
        exact rf_az w op a b k LA l.length lc l rfl (by omega) (by omega) (by omega) hi hn hlc bs _ y q e _ HP HF1 (Lib.hid fun h => HFA (fun h2 => h2.elim (by simp) h)) (Lib.hid fun h h2 => HBY h (.inr h2)) HO (Lib.hid fun h h2 => HF3 h (.inr h2)) HS
end Go.Proofs.Ytdipgokbfjbgfaa.Ins
namespace Go.Proofs.Ytdipgokbfjbgfaa.Ins
open Go.RowKit Leb Typ

theorem shut_iff (xs : List Ins) (hf : ∀ x ∈ xs, formedI x) : shutB xs = true ↔ bodyRes (allBytes xs) = (xs, (allBytes xs).length, 0) := by
  rw [shutB_iff]
  constructor
  · intro h
    have := bodyRes_put xs [] h
    simpa using this
  · intro h
    exact (bodyRes_taken (allBytes_le xs hf).2 h).1
set_option maxHeartbeats 4000000 in
set_option maxRecDepth 100000 in
theorem rclosed_any (A : Option Addr) (xs : List Ins) (c : Nat) (w : World) (hs : Sli w A c xs) (hsh : short xs) : Calls Try.prog 18 #[.slice A xs.length c] w (Tells w (shutB xs)) := by
  have HS := Lib.hid hs
  have HSH := Lib.hid hsh
  have hlen : (xs.length : Int) ≤ 2100 := by have := hsh.1; omega
  have HR0 : Hid (¬ (∀ x ∈ xs, formedB x = true) → shutB xs = false) := Lib.hid fun h => by
    apply Bool.eq_false_iff.2
    intro hsb
    have := closed_short 0 [] xs ((shutB_iff xs).1 hsb)
    exact h fun x hx => (formedB_iff x).2 (this.2 x hx)
  have HR1 : Hid ((∀ x ∈ xs, formedI x) → (shutB xs = true ↔ bodyRes (allBytes xs) = (xs, (allBytes xs).length, 0))) := Lib.hid (shut_iff xs)
  generalize shutB xs = R at *
  clear hs hsh
  go_enter Try.func18, Try.ntmps18
  go_wp2_with fail
  go_loopw [3] (fun x3 wr => ∃ j : Nat, j ≤ xs.length ∧ x3 = .int .i64 (j : Int) ∧ Hid (Below w.heap.size w wr) ∧ Hid (∀ x ∈ xs.take j, formedB x = true)) (fun x3 _ => xs.length - (intOf x3).toNat)
  case atStart => exact ⟨0, Nat.zero_le _, by go_num, Lib.hid (Below.refl _ _), Lib.hid (by simp)⟩
  case round =>
    obtain ⟨j, hj, rfl, HBL, HJ⟩ := hrel
    by_cases hjl : j < xs.length
    · have hji : (j : Int) < (xs.length : Int) := by omega
      obtain ⟨b, off, rfl, hb, hc⟩ := HS.out.ins (by omega)
      obtain ⟨LA, lc, q0, q1, q2, q3, q4, q5, q6, q7⟩ := hc j hjl
      have hx := HSH.out.2 _ (List.getElem_mem hjl)
      have C : ∀ i, wr.cell? ⟨b, i, none⟩ = w.cell? ⟨b, i, none⟩ := fun i => HBL.out.cell (p := ⟨b, i, none⟩) hb
      have d0 := (C _).trans q0
      have d1 := (C _).trans q1
      have d2 := (C _).trans q2
      have d3 := (C _).trans q3
      have d4 := (C _).trans q4
      have HFM := Lib.hid (rformed_any (.agg #[.int .i64 xs[j].op, .int .i64 xs[j].a, .int .i64 xs[j].b, .int .i64 xs[j].k, .slice LA xs[j].l.length lc]) xs[j] wr (InsV.below ⟨LA, lc, rfl, q5, q6, q7⟩ HBL.out) hx.1 hx.2)
      have HNX : Hid (formedB xs[j] = true → ∀ x ∈ xs.take (j + 1), formedB x = true) := Lib.hid fun hf => by
        rw [List.take_succ_eq_append_getElem hjl]
        intro x hx
        rcases List.mem_append.1 hx with h | h
        · exact HJ.out x h
        · rw [List.mem_singleton.1 h]; exact hf
      have HBD : Hid (¬ formedB xs[j] = true → R = false) := Lib.hid fun hf => HR0.out fun h => hf (h _ (List.getElem_mem hjl))
      clear C q0 q1 q2 q3 q4 q5 q6 q7 hx hc HJ
      generalize xs[j].l.length = ln at *
      generalize xs[j] = x at *
      by_cases hf : formedB x = true
      · have HJ2 := Lib.hid (HNX.out hf)
        rw [hf] at HFM
        clear HNX HBD hf
        go_wp2_with fail
        refine HFM.out.mono ?_
        rintro en w2 ⟨rfl, hb2⟩
        have HB2 := Lib.hid (HBL.out.trans (hb2.mono HBL.out.size))
        clear HFM hb2 HBL d0 d1 d2 d3 d4
        go_wp2
        go_roundw
        case rel => exact ⟨j + 1, by omega, by go_num, HB2, HJ2⟩
        case measure => simp [intOf]; omega
      · have HE := Lib.hid (HBD.out hf)
        have hf' : formedB x = false := by simpa using hf
        rw [hf'] at HFM
        clear HNX HBD hf hf'
        go_wp2_with fail
        refine HFM.out.mono ?_
        rintro en w2 ⟨rfl, hb2⟩
        have HB2 := Lib.hid (HBL.out.trans (hb2.mono HBL.out.size))
        clear HFM hb2 HBL d0 d1 d2 d3 d4
        go_wp2
        go_ret
        rw [HE.out]
        exact ⟨rfl, HB2.out⟩
    · obtain rfl : j = xs.length := by omega
      have hji : ¬ (xs.length : Int) < (xs.length : Int) := by omega
      have hall : ∀ x ∈ xs, formedI x := fun x hx => (formedB_iff x).1 (HJ.out x (by rw [List.take_length]; exact hx))
      have hle := allBytes_le xs hall
      have hin := (HS.out.ins.below HBL.out).more HBL.out.size
      obtain ⟨kb, hkb⟩ : ∃ kb, (allBytes xs).length = kb := ⟨_, rfl⟩
      have HALL := Lib.hid (rall_any wr A c kb xs hlen hin hall hkb)
      have HBD := fun A5 c5 W (hB : Bytes W W.heap.size A5 (allBytes xs)) (hc : (allBytes xs).length ≤ c5) => rbody_any A5 (allBytes xs) c5 W hB hc (by have := hle.1; omega)
      rw [hkb] at HBD
      have HR2 := Lib.hid (HR1.out hall)
      rw [hkb] at HR2
      have htk : ∀ m n, bodyRes (allBytes xs) = (m, n, 0) → short m := fun m n h => closed_is_short m (bodyRes_taken hle.2 h).1
      generalize hg : bodyRes (allBytes xs) = g at *
      obtain ⟨m, n, e⟩ := g
      have HBOD := Lib.hid HBD
      have HTK : Hid (e = 0 → short m) := Lib.hid fun h => by subst h; exact htk m n rfl
      clear HJ hall hle hin hkb HBD htk hg HR0 HR1
      generalize allBytes xs = bs at *
      go_wp2_with fail
      refine HALL.out.mono ?_
      rintro en w5 ⟨A5, c5, rfl, hown5, hB5, hn5, hc5, hb5⟩
      have HB5 := Lib.hid (HBL.out.trans (hb5.mono HBL.out.size))
      clear HALL hown5 hb5
      go_wp2_with fail
      refine (HBOD.out _ _ _ hB5 hc5).mono ?_
      rintro en w6 ⟨A6, c6, rfl, hs6, hb6⟩
      have HB6 := Lib.hid (HB5.out.trans (hb6.mono HB5.out.size))
      have HS6 := Lib.hid hs6
      clear HBOD hs6 hb6 hB5 HB5
      by_cases he : e = 0
      · subst he
        by_cases hnk : n = kb
        · subst hnk
          have hshm := HTK.out rfl
          have HSA := Lib.hid (sameAll_any A A6 xs m c c6 w6 ((HS.out.ins.below HB6.out).more HB6.out.size) HS6.out.ins (by omega) (by have := hshm.1; omega) (fun x hx => by have := (HSH.out.2 x hx).2; omega) (fun x hx => by have := (hshm.2 x hx).2; omega))
          have HE : Hid (R = decide (xs = m)) := Lib.hid (by
            have h := HR2.out
            simp only [Prod.mk.injEq, and_true] at h
            apply Bool.eq_iff_iff.2
            rw [h, decide_eq_true_iff]
            exact eq_comm)
          clear HR2 HTK hshm HS6
          generalize decide (xs = m) = rb at *
          generalize m.length = lm at *
          go_wp2_with fail
          refine HSA.out.mono ?_
          rintro en w7 ⟨rfl, hb7⟩
          have HB7 := Lib.hid (HB6.out.trans (hb7.mono HB6.out.size))
          clear HSA hb7
          go_wp2
          go_ret
          rw [HE.out]
          exact ⟨rfl, HB7.out⟩
        · have HE : Hid (R = false) := Lib.hid (Bool.eq_false_iff.2 fun h => by
            have := HR2.out.1 h
            simp only [Prod.mk.injEq] at this
            exact hnk this.2.1)
          have hne : ((n : Int) == (kb : Int)) = false := by simp; omega
          clear HR2 HTK HS6
          go_wp2
          go_ret
          rw [HE.out]
          exact ⟨rfl, HB6.out⟩
      · have HE : Hid (R = false) := Lib.hid (Bool.eq_false_iff.2 fun h => by
          have := HR2.out.1 h
          simp only [Prod.mk.injEq] at this
          exact he this.2.2)
        have hne : ((e : Int) == 0) = false := by simp; omega
        clear HR2 HTK HS6
        go_wp2
        go_ret
        rw [HE.out]
        exact ⟨rfl, HB6.out⟩
end Go.Proofs.Ytdipgokbfjbgfaa.Ins
