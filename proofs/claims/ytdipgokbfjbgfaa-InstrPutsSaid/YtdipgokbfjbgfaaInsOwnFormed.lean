/-
  InsOwnFormed: instr's areLabels, isBlock, Formed: what each comes to. Conditions: slices lead to ints; numbers of 64 bits.
-/
import Derived.Test.YtdipgokbfjbgfaaInsForms
import Derived.Test.YtdipgokbfjbgfaaTypAll
import Derived.Test.YtdipgokbfjbgfaaInsOpen
namespace Go.Proofs.Ytdipgokbfjbgfaa.Ins
open Go.RowKit Leb Typ

def labsB (xs : List Int) : Bool := decide (xs.length ≤ 64 ∧ ∀ n ∈ xs, fitsU n)
set_option maxHeartbeats 1000000 in
theorem labsOk_any (A : Option Addr) (xs : List Int) (c B : Nat) (w : World) (hb : Ints w B A xs) (hl : xs.length ≤ 100) : Calls Try.prog 33 #[.slice A xs.length c] w (Same1 w (.bool (labsB xs))) := by
  by_cases h64 : 64 < xs.length
  · rw [show labsB xs = false from decide_eq_false (by omega)]
    have hli : (64 : Int) < (xs.length : Int) := by omega
    clear hb hl h64
    go_enter Try.func33, Try.ntmps33
    go_wp2
    go_ret
    exact ⟨rfl, rfl⟩
  · have hli : ¬ (64 : Int) < (xs.length : Int) := by omega
    have HL := Lib.hid hl
    have H64 := Lib.hid h64
    have HB := Lib.hid hb
    have HN := Lib.hid (fun n => inum_any n w)
    clear hb h64 hl
    go_enter Try.func33, Try.ntmps33
    go_wp2_with fail
    go_loopw [10] (fun x wr => ∃ j : Nat, j ≤ xs.length ∧ x = .int .i64 (j : Int) ∧ wr = w ∧ Hid (∀ n ∈ xs.take j, fitsU n)) (fun i _ => xs.length - (intOf i).toNat)
    case atStart => exact ⟨0, Nat.zero_le _, by go_num, rfl, Lib.hid (by simp)⟩
    case round =>
      obtain ⟨j, hj, rfl, rfl, HJ⟩ := hrel
      by_cases hjl : j < xs.length
      · have hji : (j : Int) < (xs.length : Int) := by omega
        obtain ⟨b, off, rfl, _, hc⟩ := HB.out (by omega)
        have hcj := hc j hjl
        have hL := HL.out
        by_cases hf : fitsU xs[j]
        · have hN := HN.out xs[j]
          rw [decide_eq_true hf] at hN
          have HN1 := Lib.hid hN
          have HJ2 : Hid (∀ n ∈ xs.take (j + 1), fitsU n) := Lib.hid (by
            rw [List.take_succ_eq_append_getElem hjl]
            intro n hn
            rcases List.mem_append.1 hn with h | h
            · exact HJ.out n h
            · rw [List.mem_singleton.1 h]; exact hf)
          clear hN hc hf HJ HN
          generalize xs[j] = y at *
          go_wp2_with fail
          refine HN1.out.mono ?_
          rintro e w1 ⟨rfl, rfl⟩
          go_wp2
          go_roundw
          case rel => exact ⟨j + 1, by omega, by go_num, by trivial, HJ2⟩
          case measure => simp [intOf]; omega
        · have hN := HN.out xs[j]
          rw [decide_eq_false hf] at hN
          have HN1 := Lib.hid hN
          have HE : Hid (labsB xs = false) := Lib.hid (decide_eq_false (fun h => hf (h.2 _ (List.getElem_mem hjl))))
          clear hN hc hf HJ HN
          generalize xs[j] = y at *
          go_wp2_with fail
          refine HN1.out.mono ?_
          rintro e w1 ⟨rfl, rfl⟩
          go_wp2
          go_ret
          rw [HE.out]
          exact ⟨rfl, rfl⟩
      · have hji : ¬ (j : Int) < (xs.length : Int) := by omega
        have HE : Hid (labsB xs = true) := Lib.hid (decide_eq_true ⟨by have := H64.out; omega, by have := HJ.out; rwa [List.take_of_length_le (by omega)] at this⟩)
        clear HJ HN HB H64
        go_wp2
        go_ret
        rw [HE.out]
        exact ⟨rfl, rfl⟩
theorem blkOk_yes (t : Int) (w : World) (k : Nat) (l : List Nat) (HP : Hid (Calls Try.prog 43 #[.slice none 0 0, .int .i64 t] w (PutIs w l k 0))) : Calls Try.prog 31 #[.int .i64 t] w (Tells w true) := by
  go_enter Try.func31, Try.ntmps31
  go_wp2_with fail
  refine HP.out.mono ?_
  rintro e w1 hp
  obtain ⟨A1, c1, rfl, _, _, _, _, hb1⟩ := hp
  go_wp2
  go_ret
  exact ⟨rfl, hb1⟩
theorem blkOk_no (t : Int) (w : World) (k : Nat) (l : List Nat) (HP : Hid (Calls Try.prog 43 #[.slice none 0 0, .int .i64 t] w (PutIs w l k 2))) : Calls Try.prog 31 #[.int .i64 t] w (Tells w false) := by
  go_enter Try.func31, Try.ntmps31
  go_wp2_with fail
  refine HP.out.mono ?_
  rintro e w1 hp
  obtain ⟨A1, c1, rfl, _, _, _, _, hb1⟩ := hp
  go_wp2
  go_ret
  exact ⟨rfl, hb1⟩
theorem blkOk_any (t : Int) (w : World) (ht : I64 t) : Calls Try.prog 31 #[.int .i64 t] w (Tells w (rightBlock t)) := by
  have h := fun k (hk : (putRes (rightBlock t) [] (putS t)).1.length = k) => oputb_any none [] 0 k t w ⟨⟨by simp, by simp⟩, fun _ => rfl, Nat.le_refl _⟩ (by simp) ht hk
  by_cases hR : rightBlock t = true
  · rw [hR] at h ⊢
    exact blkOk_yes t w _ _ (Lib.hid (h _ rfl))
  · have hR' : rightBlock t = false := by simpa using hR
    rw [hR'] at h ⊢
    exact blkOk_no t w _ _ (Lib.hid (h _ rfl))
/-- The instruction's box, and that of what must be 0. -/
structure FB (w W : World) (g : Nat) (op a b k : Int) (S : Value) : Prop where
  below : Below w.heap.size w W
  lo : w.heap.size ≤ g
  hi : g + 1 < W.heap.size
  x0 : W.cell? ⟨g, 0, none⟩ = some (.int .i64 op)
  x1 : W.cell? ⟨g, 1, none⟩ = some (.int .i64 a)
  x2 : W.cell? ⟨g, 2, none⟩ = some (.int .i64 b)
  x3 : W.cell? ⟨g, 3, none⟩ = some (.int .i64 k)
  x4 : W.cell? ⟨g, 4, none⟩ = some S
  y0 : W.cell? ⟨g + 1, 0, none⟩ = some (.int .i64 op)
  y1 : W.cell? ⟨g + 1, 1, none⟩ = some (.int .i64 a)
  y2 : W.cell? ⟨g + 1, 2, none⟩ = some (.int .i64 b)
  y3 : W.cell? ⟨g + 1, 3, none⟩ = some (.int .i64 k)
  y4 : W.cell? ⟨g + 1, 4, none⟩ = some S
  z1 : W.frozen? ⟨g + 1, 1, none⟩ = false
  z2 : W.frozen? ⟨g + 1, 2, none⟩ = false
  z3 : W.frozen? ⟨g + 1, 3, none⟩ = false
  z4 : W.frozen? ⟨g + 1, 4, none⟩ = false
theorem FB.keep {w W W' : World} {g : Nat} {op a b k : Int} {S : Value} (h : FB w W g op a b k S) (hb : Below W.heap.size W W') : FB w W' g op a b k S := by
  have hhi := h.hi
  have h0 := hb.block g (by omega)
  have h1 := hb.block (g + 1) (by omega)
  have C0 : ∀ i, W'.cell? ⟨g, i, none⟩ = W.cell? ⟨g, i, none⟩ := fun i => World.cell?_of_block h0
  have C1 : ∀ i, W'.cell? ⟨g + 1, i, none⟩ = W.cell? ⟨g + 1, i, none⟩ := fun i => World.cell?_of_block h1
  have F1 : ∀ i, W'.frozen? ⟨g + 1, i, none⟩ = W.frozen? ⟨g + 1, i, none⟩ := fun i => World.frozen?_of_block h1
  exact ⟨h.below.trans (hb.mono h.below.size), h.lo, Nat.lt_of_lt_of_le hhi hb.size, (C0 _).trans h.x0, (C0 _).trans h.x1, (C0 _).trans h.x2, (C0 _).trans h.x3, (C0 _).trans h.x4, (C1 _).trans h.y0, (C1 _).trans h.y1, (C1 _).trans h.y2, (C1 _).trans h.y3, (C1 _).trans h.y4, (F1 _).trans h.z1, (F1 _).trans h.z2, (F1 _).trans h.z3, (F1 _).trans h.z4⟩
theorem fb_of (w : World) (op a b k : Int) (S : Value) (t t' : TypeId) : FB w ((w.alloc (.cells #[.int .i64 op, .int .i64 a, .int .i64 b, .int .i64 k, S] t)).alloc (.cells #[.int .i64 op, .int .i64 a, .int .i64 b, .int .i64 k, S] t')) w.heap.size op a b k S := by
  have e : (w.alloc (.cells #[.int .i64 op, .int .i64 a, .int .i64 b, .int .i64 k, S] t)).heap.size = w.heap.size + 1 := by simp
  have hr0 := (MapKept.heap_alloc w (.cells #[.int .i64 op, .int .i64 a, .int .i64 b, .int .i64 k, S] t)).1
  have hr1 := (MapKept.heap_alloc (w.alloc (.cells #[.int .i64 op, .int .i64 a, .int .i64 b, .int .i64 k, S] t)) (.cells #[.int .i64 op, .int .i64 a, .int .i64 b, .int .i64 k, S] t')).1
  rw [e] at hr1
  have hb : Below (w.heap.size + 1) (w.alloc (.cells #[.int .i64 op, .int .i64 a, .int .i64 b, .int .i64 k, S] t)) ((w.alloc (.cells #[.int .i64 op, .int .i64 a, .int .i64 b, .int .i64 k, S] t)).alloc (.cells #[.int .i64 op, .int .i64 a, .int .i64 b, .int .i64 k, S] t')) := (Below.refl _ _).alloc (by simp) _
  have h0 := hb.block w.heap.size (by omega)
  have C0 : ∀ i, ((w.alloc (.cells #[.int .i64 op, .int .i64 a, .int .i64 b, .int .i64 k, S] t)).alloc (.cells #[.int .i64 op, .int .i64 a, .int .i64 b, .int .i64 k, S] t')).cell? ⟨w.heap.size, i, none⟩ = (w.alloc (.cells #[.int .i64 op, .int .i64 a, .int .i64 b, .int .i64 k, S] t)).cell? ⟨w.heap.size, i, none⟩ := fun i => World.cell?_of_block h0
  refine ⟨((Below.refl _ _).alloc (Nat.le_refl _) _).alloc (by simp) _, Nat.le_refl _, by simp, (C0 _).trans ?_, (C0 _).trans ?_, (C0 _).trans ?_, (C0 _).trans ?_, (C0 _).trans ?_, ?_, ?_, ?_, ?_, ?_, ?_, ?_, ?_, ?_⟩
  all_goals first
    | (simp only [World.cell?, hr0]; rfl)
    | (simp only [World.cell?, hr1]; rfl)
    | (simp only [World.frozen?, hr1]; rfl)
section
variable (w : World) (op a b k : Int) (A : Option Addr) (ln c : Nat)
set_option maxHeartbeats 1000000 in
set_option maxRecDepth 100000 in
theorem fmd_none_None (HF : Hid (∀ W, Calls Try.prog 30 #[.int .i64 op] W (FormIs W 0)))  : Calls Try.prog 13 #[.agg #[.int .i64 op, .int .i64 a, .int .i64 b, .int .i64 k, .slice A ln c]] w (Tells w false) := by
  have HFB := Lib.hid (fb_of w op a b k (.slice A ln c) 25 25)
  go_enter Try.func13, Try.ntmps13
  go_wp2_with fail
  refine (HF.out _).mono ?_
  rintro en w2 ⟨rfl, hb2⟩
  have HFB2 := Lib.hid (HFB.out.keep hb2)
  clear hb2 HFB HF
  obtain ⟨hb, lo, hi, x0, x1, x2, x3, x4, y0, y1, y2, y3, y4, z1, z2, z3, z4⟩ := HFB2.out
  go_wp2
  go_ret
  exact ⟨rfl, hb⟩
set_option maxHeartbeats 1000000 in
set_option maxRecDepth 100000 in
theorem fmd_wide_None (HF : Hid (∀ W, Calls Try.prog 30 #[.int .i64 op] W (FormIs W 1)))  : Calls Try.prog 13 #[.agg #[.int .i64 op, .int .i64 a, .int .i64 b, .int .i64 k, .slice A ln c]] w (Tells w false) := by
  have HFB := Lib.hid (fb_of w op a b k (.slice A ln c) 25 25)
  go_enter Try.func13, Try.ntmps13
  go_wp2_with fail
  refine (HF.out _).mono ?_
  rintro en w2 ⟨rfl, hb2⟩
  have HFB2 := Lib.hid (HFB.out.keep hb2)
  clear hb2 HFB HF
  obtain ⟨hb, lo, hi, x0, x1, x2, x3, x4, y0, y1, y2, y3, y4, z1, z2, z3, z4⟩ := HFB2.out
  go_wp2
  go_ret
  exact ⟨rfl, hb⟩
set_option maxHeartbeats 1000000 in
set_option maxRecDepth 100000 in
theorem fmd_bare_0 (HF : Hid (∀ W, Calls Try.prog 30 #[.int .i64 op] W (FormIs W 2))) (qa : (a == 0) = false) : Calls Try.prog 13 #[.agg #[.int .i64 op, .int .i64 a, .int .i64 b, .int .i64 k, .slice A ln c]] w (Tells w false) := by
  have HFB := Lib.hid (fb_of w op a b k (.slice A ln c) 25 25)
  go_enter Try.func13, Try.ntmps13
  go_wp2_with fail
  refine (HF.out _).mono ?_
  rintro en w2 ⟨rfl, hb2⟩
  have HFB2 := Lib.hid (HFB.out.keep hb2)
  clear hb2 HFB HF
  obtain ⟨hb, lo, hi, x0, x1, x2, x3, x4, y0, y1, y2, y3, y4, z1, z2, z3, z4⟩ := HFB2.out
  go_wp2
  go_ret
  exact ⟨rfl, by first | exact hb | exact hb.setCell (by simp) _ | exact (hb.setCell (by simp) _).setCell (by simp) _⟩
set_option maxHeartbeats 1000000 in
set_option maxRecDepth 100000 in
theorem fmd_bare_1 (HF : Hid (∀ W, Calls Try.prog 30 #[.int .i64 op] W (FormIs W 2))) (qa : (a == 0) = true) (qb : (b == 0) = false) : Calls Try.prog 13 #[.agg #[.int .i64 op, .int .i64 a, .int .i64 b, .int .i64 k, .slice A ln c]] w (Tells w false) := by
  have HFB := Lib.hid (fb_of w op a b k (.slice A ln c) 25 25)
  go_enter Try.func13, Try.ntmps13
  go_wp2_with fail
  refine (HF.out _).mono ?_
  rintro en w2 ⟨rfl, hb2⟩
  have HFB2 := Lib.hid (HFB.out.keep hb2)
  clear hb2 HFB HF
  obtain ⟨hb, lo, hi, x0, x1, x2, x3, x4, y0, y1, y2, y3, y4, z1, z2, z3, z4⟩ := HFB2.out
  go_wp2
  go_ret
  exact ⟨rfl, by first | exact hb | exact hb.setCell (by simp) _ | exact (hb.setCell (by simp) _).setCell (by simp) _⟩
set_option maxHeartbeats 1000000 in
set_option maxRecDepth 100000 in
theorem fmd_bare_2 (HF : Hid (∀ W, Calls Try.prog 30 #[.int .i64 op] W (FormIs W 2))) (qa : (a == 0) = true) (qb : (b == 0) = true) (qk : (k == 0) = false) : Calls Try.prog 13 #[.agg #[.int .i64 op, .int .i64 a, .int .i64 b, .int .i64 k, .slice A ln c]] w (Tells w false) := by
  have HFB := Lib.hid (fb_of w op a b k (.slice A ln c) 25 25)
  go_enter Try.func13, Try.ntmps13
  go_wp2_with fail
  refine (HF.out _).mono ?_
  rintro en w2 ⟨rfl, hb2⟩
  have HFB2 := Lib.hid (HFB.out.keep hb2)
  clear hb2 HFB HF
  obtain ⟨hb, lo, hi, x0, x1, x2, x3, x4, y0, y1, y2, y3, y4, z1, z2, z3, z4⟩ := HFB2.out
  go_wp2
  go_ret
  exact ⟨rfl, by first | exact hb | exact hb.setCell (by simp) _ | exact (hb.setCell (by simp) _).setCell (by simp) _⟩
set_option maxHeartbeats 1000000 in
set_option maxRecDepth 100000 in
theorem fmd_bare_3 (HF : Hid (∀ W, Calls Try.prog 30 #[.int .i64 op] W (FormIs W 2))) (qa : (a == 0) = true) (qb : (b == 0) = true) (qk : (k == 0) = true) (qln : ((ln : Int) == 0) = false) : Calls Try.prog 13 #[.agg #[.int .i64 op, .int .i64 a, .int .i64 b, .int .i64 k, .slice A ln c]] w (Tells w false) := by
  have HFB := Lib.hid (fb_of w op a b k (.slice A ln c) 25 25)
  go_enter Try.func13, Try.ntmps13
  go_wp2_with fail
  refine (HF.out _).mono ?_
  rintro en w2 ⟨rfl, hb2⟩
  have HFB2 := Lib.hid (HFB.out.keep hb2)
  clear hb2 HFB HF
  obtain ⟨hb, lo, hi, x0, x1, x2, x3, x4, y0, y1, y2, y3, y4, z1, z2, z3, z4⟩ := HFB2.out
  go_wp2
  go_ret
  exact ⟨rfl, by first | exact hb | exact hb.setCell (by simp) _ | exact (hb.setCell (by simp) _).setCell (by simp) _⟩
set_option maxHeartbeats 1000000 in
set_option maxRecDepth 100000 in
theorem fmd_bare_ok (HF : Hid (∀ W, Calls Try.prog 30 #[.int .i64 op] W (FormIs W 2))) (qa : (a == 0) = true) (qb : (b == 0) = true) (qk : (k == 0) = true) (qln : ((ln : Int) == 0) = true) : Calls Try.prog 13 #[.agg #[.int .i64 op, .int .i64 a, .int .i64 b, .int .i64 k, .slice A ln c]] w (Tells w true) := by
  have HFB := Lib.hid (fb_of w op a b k (.slice A ln c) 25 25)
  go_enter Try.func13, Try.ntmps13
  go_wp2_with fail
  refine (HF.out _).mono ?_
  rintro en w2 ⟨rfl, hb2⟩
  have HFB2 := Lib.hid (HFB.out.keep hb2)
  clear hb2 HFB HF
  obtain ⟨hb, lo, hi, x0, x1, x2, x3, x4, y0, y1, y2, y3, y4, z1, z2, z3, z4⟩ := HFB2.out
  go_wp2
  go_ret
  exact ⟨rfl, by first | exact hb | exact hb.setCell (by simp) _ | exact (hb.setCell (by simp) _).setCell (by simp) _⟩
set_option maxHeartbeats 1000000 in
set_option maxRecDepth 100000 in
theorem fmd_t_0 (HF : Hid (∀ W, Calls Try.prog 30 #[.int .i64 op] W (FormIs W 3))) (HB : Hid (∀ W, Calls Try.prog 31 #[.int .i64 a] W (Tells W false))) : Calls Try.prog 13 #[.agg #[.int .i64 op, .int .i64 a, .int .i64 b, .int .i64 k, .slice A ln c]] w (Tells w false) := by
  have HFB := Lib.hid (fb_of w op a b k (.slice A ln c) 25 25)
  go_enter Try.func13, Try.ntmps13
  go_wp2_with fail
  refine (HF.out _).mono ?_
  rintro en w2 ⟨rfl, hb2⟩
  have HFB2 := Lib.hid (HFB.out.keep hb2)
  clear hb2 HFB HF
  obtain ⟨hb, lo, hi, x0, x1, x2, x3, x4, y0, y1, y2, y3, y4, z1, z2, z3, z4⟩ := HFB2.out
  clear hb lo hi x0 x2 x3 x4 y0 y1 y2 y3 y4 z1 z2 z3 z4
  go_wp2_with fail
  refine (HB.out _).mono ?_
  rintro en w3 ⟨rfl, hb3⟩
  clear x1
  obtain ⟨hb, lo, hi, x0, x1, x2, x3, x4, y0, y1, y2, y3, y4, z1, z2, z3, z4⟩ := HFB2.out.keep hb3
  go_wp2
  go_ret
  exact ⟨rfl, by first | exact hb | exact hb.setCell (by simp) _ | exact (hb.setCell (by simp) _).setCell (by simp) _⟩
set_option maxHeartbeats 1000000 in
set_option maxRecDepth 100000 in
theorem fmd_t_1 (HF : Hid (∀ W, Calls Try.prog 30 #[.int .i64 op] W (FormIs W 3))) (HB : Hid (∀ W, Calls Try.prog 31 #[.int .i64 a] W (Tells W true))) (qb : (b == 0) = false) : Calls Try.prog 13 #[.agg #[.int .i64 op, .int .i64 a, .int .i64 b, .int .i64 k, .slice A ln c]] w (Tells w false) := by
  have HFB := Lib.hid (fb_of w op a b k (.slice A ln c) 25 25)
  go_enter Try.func13, Try.ntmps13
  go_wp2_with fail
  refine (HF.out _).mono ?_
  rintro en w2 ⟨rfl, hb2⟩
  have HFB2 := Lib.hid (HFB.out.keep hb2)
  clear hb2 HFB HF
  obtain ⟨hb, lo, hi, x0, x1, x2, x3, x4, y0, y1, y2, y3, y4, z1, z2, z3, z4⟩ := HFB2.out
  clear hb lo hi x0 x2 x3 x4 y0 y1 y2 y3 y4 z1 z2 z3 z4
  go_wp2_with fail
  refine (HB.out _).mono ?_
  rintro en w3 ⟨rfl, hb3⟩
  clear x1
  obtain ⟨hb, lo, hi, x0, x1, x2, x3, x4, y0, y1, y2, y3, y4, z1, z2, z3, z4⟩ := HFB2.out.keep hb3
  go_wp2
  go_ret
  exact ⟨rfl, by first | exact hb | exact hb.setCell (by simp) _ | exact (hb.setCell (by simp) _).setCell (by simp) _⟩
set_option maxHeartbeats 1000000 in
set_option maxRecDepth 100000 in
theorem fmd_t_2 (HF : Hid (∀ W, Calls Try.prog 30 #[.int .i64 op] W (FormIs W 3))) (HB : Hid (∀ W, Calls Try.prog 31 #[.int .i64 a] W (Tells W true))) (qb : (b == 0) = true) (qk : (k == 0) = false) : Calls Try.prog 13 #[.agg #[.int .i64 op, .int .i64 a, .int .i64 b, .int .i64 k, .slice A ln c]] w (Tells w false) := by
  have HFB := Lib.hid (fb_of w op a b k (.slice A ln c) 25 25)
  go_enter Try.func13, Try.ntmps13
  go_wp2_with fail
  refine (HF.out _).mono ?_
  rintro en w2 ⟨rfl, hb2⟩
  have HFB2 := Lib.hid (HFB.out.keep hb2)
  clear hb2 HFB HF
  obtain ⟨hb, lo, hi, x0, x1, x2, x3, x4, y0, y1, y2, y3, y4, z1, z2, z3, z4⟩ := HFB2.out
  clear hb lo hi x0 x2 x3 x4 y0 y1 y2 y3 y4 z1 z2 z3 z4
  go_wp2_with fail
  refine (HB.out _).mono ?_
  rintro en w3 ⟨rfl, hb3⟩
  clear x1
  obtain ⟨hb, lo, hi, x0, x1, x2, x3, x4, y0, y1, y2, y3, y4, z1, z2, z3, z4⟩ := HFB2.out.keep hb3
  go_wp2
  go_ret
  exact ⟨rfl, by first | exact hb | exact hb.setCell (by simp) _ | exact (hb.setCell (by simp) _).setCell (by simp) _⟩
set_option maxHeartbeats 1000000 in
set_option maxRecDepth 100000 in
theorem fmd_t_3 (HF : Hid (∀ W, Calls Try.prog 30 #[.int .i64 op] W (FormIs W 3))) (HB : Hid (∀ W, Calls Try.prog 31 #[.int .i64 a] W (Tells W true))) (qb : (b == 0) = true) (qk : (k == 0) = true) (qln : ((ln : Int) == 0) = false) : Calls Try.prog 13 #[.agg #[.int .i64 op, .int .i64 a, .int .i64 b, .int .i64 k, .slice A ln c]] w (Tells w false) := by
  have HFB := Lib.hid (fb_of w op a b k (.slice A ln c) 25 25)
  go_enter Try.func13, Try.ntmps13
  go_wp2_with fail
  refine (HF.out _).mono ?_
  rintro en w2 ⟨rfl, hb2⟩
  have HFB2 := Lib.hid (HFB.out.keep hb2)
  clear hb2 HFB HF
  obtain ⟨hb, lo, hi, x0, x1, x2, x3, x4, y0, y1, y2, y3, y4, z1, z2, z3, z4⟩ := HFB2.out
  clear hb lo hi x0 x2 x3 x4 y0 y1 y2 y3 y4 z1 z2 z3 z4
  go_wp2_with fail
  refine (HB.out _).mono ?_
  rintro en w3 ⟨rfl, hb3⟩
  clear x1
  obtain ⟨hb, lo, hi, x0, x1, x2, x3, x4, y0, y1, y2, y3, y4, z1, z2, z3, z4⟩ := HFB2.out.keep hb3
  go_wp2
  go_ret
  exact ⟨rfl, by first | exact hb | exact hb.setCell (by simp) _ | exact (hb.setCell (by simp) _).setCell (by simp) _⟩
set_option maxHeartbeats 1000000 in
set_option maxRecDepth 100000 in
theorem fmd_t_ok (HF : Hid (∀ W, Calls Try.prog 30 #[.int .i64 op] W (FormIs W 3))) (HB : Hid (∀ W, Calls Try.prog 31 #[.int .i64 a] W (Tells W true))) (qb : (b == 0) = true) (qk : (k == 0) = true) (qln : ((ln : Int) == 0) = true) : Calls Try.prog 13 #[.agg #[.int .i64 op, .int .i64 a, .int .i64 b, .int .i64 k, .slice A ln c]] w (Tells w true) := by
  have HFB := Lib.hid (fb_of w op a b k (.slice A ln c) 25 25)
  go_enter Try.func13, Try.ntmps13
  go_wp2_with fail
  refine (HF.out _).mono ?_
  rintro en w2 ⟨rfl, hb2⟩
  have HFB2 := Lib.hid (HFB.out.keep hb2)
  clear hb2 HFB HF
  obtain ⟨hb, lo, hi, x0, x1, x2, x3, x4, y0, y1, y2, y3, y4, z1, z2, z3, z4⟩ := HFB2.out
  clear hb lo hi x0 x2 x3 x4 y0 y1 y2 y3 y4 z1 z2 z3 z4
  go_wp2_with fail
  refine (HB.out _).mono ?_
  rintro en w3 ⟨rfl, hb3⟩
  clear x1
  obtain ⟨hb, lo, hi, x0, x1, x2, x3, x4, y0, y1, y2, y3, y4, z1, z2, z3, z4⟩ := HFB2.out.keep hb3
  go_wp2
  go_ret
  exact ⟨rfl, by first | exact hb | exact hb.setCell (by simp) _ | exact (hb.setCell (by simp) _).setCell (by simp) _⟩
set_option maxHeartbeats 1000000 in
set_option maxRecDepth 100000 in
theorem fmd_a_0 (HF : Hid (∀ W, Calls Try.prog 30 #[.int .i64 op] W (FormIs W 4))) (HNa : Hid (∀ W, Calls Try.prog 32 #[.int .i64 a] W (Same1 W (.bool false)))) : Calls Try.prog 13 #[.agg #[.int .i64 op, .int .i64 a, .int .i64 b, .int .i64 k, .slice A ln c]] w (Tells w false) := by
  have HFB := Lib.hid (fb_of w op a b k (.slice A ln c) 25 25)
  go_enter Try.func13, Try.ntmps13
  go_wp2_with fail
  refine (HF.out _).mono ?_
  rintro en w2 ⟨rfl, hb2⟩
  have HFB2 := Lib.hid (HFB.out.keep hb2)
  clear hb2 HFB HF
  obtain ⟨hb, lo, hi, x0, x1, x2, x3, x4, y0, y1, y2, y3, y4, z1, z2, z3, z4⟩ := HFB2.out
  go_wp2_with fail
  refine (HNa.out _).mono ?_
  rintro en w3 ⟨rfl, rfl⟩
  go_wp2
  go_ret
  exact ⟨rfl, by first | exact hb | exact hb.setCell (by simp) _ | exact (hb.setCell (by simp) _).setCell (by simp) _⟩
set_option maxHeartbeats 1000000 in
set_option maxRecDepth 100000 in
theorem fmd_a_1 (HF : Hid (∀ W, Calls Try.prog 30 #[.int .i64 op] W (FormIs W 4))) (HNa : Hid (∀ W, Calls Try.prog 32 #[.int .i64 a] W (Same1 W (.bool true)))) (qb : (b == 0) = false) : Calls Try.prog 13 #[.agg #[.int .i64 op, .int .i64 a, .int .i64 b, .int .i64 k, .slice A ln c]] w (Tells w false) := by
  have HFB := Lib.hid (fb_of w op a b k (.slice A ln c) 25 25)
  go_enter Try.func13, Try.ntmps13
  go_wp2_with fail
  refine (HF.out _).mono ?_
  rintro en w2 ⟨rfl, hb2⟩
  have HFB2 := Lib.hid (HFB.out.keep hb2)
  clear hb2 HFB HF
  obtain ⟨hb, lo, hi, x0, x1, x2, x3, x4, y0, y1, y2, y3, y4, z1, z2, z3, z4⟩ := HFB2.out
  go_wp2_with fail
  refine (HNa.out _).mono ?_
  rintro en w3 ⟨rfl, rfl⟩
  go_wp2
  go_ret
  exact ⟨rfl, by first | exact hb | exact hb.setCell (by simp) _ | exact (hb.setCell (by simp) _).setCell (by simp) _⟩
set_option maxHeartbeats 1000000 in
set_option maxRecDepth 100000 in
theorem fmd_a_2 (HF : Hid (∀ W, Calls Try.prog 30 #[.int .i64 op] W (FormIs W 4))) (HNa : Hid (∀ W, Calls Try.prog 32 #[.int .i64 a] W (Same1 W (.bool true)))) (qb : (b == 0) = true) (qk : (k == 0) = false) : Calls Try.prog 13 #[.agg #[.int .i64 op, .int .i64 a, .int .i64 b, .int .i64 k, .slice A ln c]] w (Tells w false) := by
  have HFB := Lib.hid (fb_of w op a b k (.slice A ln c) 25 25)
  go_enter Try.func13, Try.ntmps13
  go_wp2_with fail
  refine (HF.out _).mono ?_
  rintro en w2 ⟨rfl, hb2⟩
  have HFB2 := Lib.hid (HFB.out.keep hb2)
  clear hb2 HFB HF
  obtain ⟨hb, lo, hi, x0, x1, x2, x3, x4, y0, y1, y2, y3, y4, z1, z2, z3, z4⟩ := HFB2.out
  go_wp2_with fail
  refine (HNa.out _).mono ?_
  rintro en w3 ⟨rfl, rfl⟩
  go_wp2
  go_ret
  exact ⟨rfl, by first | exact hb | exact hb.setCell (by simp) _ | exact (hb.setCell (by simp) _).setCell (by simp) _⟩
set_option maxHeartbeats 1000000 in
set_option maxRecDepth 100000 in
theorem fmd_a_3 (HF : Hid (∀ W, Calls Try.prog 30 #[.int .i64 op] W (FormIs W 4))) (HNa : Hid (∀ W, Calls Try.prog 32 #[.int .i64 a] W (Same1 W (.bool true)))) (qb : (b == 0) = true) (qk : (k == 0) = true) (qln : ((ln : Int) == 0) = false) : Calls Try.prog 13 #[.agg #[.int .i64 op, .int .i64 a, .int .i64 b, .int .i64 k, .slice A ln c]] w (Tells w false) := by
  have HFB := Lib.hid (fb_of w op a b k (.slice A ln c) 25 25)
  go_enter Try.func13, Try.ntmps13
  go_wp2_with fail
  refine (HF.out _).mono ?_
  rintro en w2 ⟨rfl, hb2⟩
  have HFB2 := Lib.hid (HFB.out.keep hb2)
  clear hb2 HFB HF
  obtain ⟨hb, lo, hi, x0, x1, x2, x3, x4, y0, y1, y2, y3, y4, z1, z2, z3, z4⟩ := HFB2.out
  go_wp2_with fail
  refine (HNa.out _).mono ?_
  rintro en w3 ⟨rfl, rfl⟩
  go_wp2
  go_ret
  exact ⟨rfl, by first | exact hb | exact hb.setCell (by simp) _ | exact (hb.setCell (by simp) _).setCell (by simp) _⟩
set_option maxHeartbeats 1000000 in
set_option maxRecDepth 100000 in
theorem fmd_a_ok (HF : Hid (∀ W, Calls Try.prog 30 #[.int .i64 op] W (FormIs W 4))) (HNa : Hid (∀ W, Calls Try.prog 32 #[.int .i64 a] W (Same1 W (.bool true)))) (qb : (b == 0) = true) (qk : (k == 0) = true) (qln : ((ln : Int) == 0) = true) : Calls Try.prog 13 #[.agg #[.int .i64 op, .int .i64 a, .int .i64 b, .int .i64 k, .slice A ln c]] w (Tells w true) := by
  have HFB := Lib.hid (fb_of w op a b k (.slice A ln c) 25 25)
  go_enter Try.func13, Try.ntmps13
  go_wp2_with fail
  refine (HF.out _).mono ?_
  rintro en w2 ⟨rfl, hb2⟩
  have HFB2 := Lib.hid (HFB.out.keep hb2)
  clear hb2 HFB HF
  obtain ⟨hb, lo, hi, x0, x1, x2, x3, x4, y0, y1, y2, y3, y4, z1, z2, z3, z4⟩ := HFB2.out
  go_wp2_with fail
  refine (HNa.out _).mono ?_
  rintro en w3 ⟨rfl, rfl⟩
  go_wp2
  go_ret
  exact ⟨rfl, by first | exact hb | exact hb.setCell (by simp) _ | exact (hb.setCell (by simp) _).setCell (by simp) _⟩
set_option maxHeartbeats 1000000 in
set_option maxRecDepth 100000 in
theorem fmd_ab_0 (HF : Hid (∀ W, Calls Try.prog 30 #[.int .i64 op] W (FormIs W 5))) (HNa : Hid (∀ W, Calls Try.prog 32 #[.int .i64 a] W (Same1 W (.bool false)))) : Calls Try.prog 13 #[.agg #[.int .i64 op, .int .i64 a, .int .i64 b, .int .i64 k, .slice A ln c]] w (Tells w false) := by
  have HFB := Lib.hid (fb_of w op a b k (.slice A ln c) 25 25)
  go_enter Try.func13, Try.ntmps13
  go_wp2_with fail
  refine (HF.out _).mono ?_
  rintro en w2 ⟨rfl, hb2⟩
  have HFB2 := Lib.hid (HFB.out.keep hb2)
  clear hb2 HFB HF
  obtain ⟨hb, lo, hi, x0, x1, x2, x3, x4, y0, y1, y2, y3, y4, z1, z2, z3, z4⟩ := HFB2.out
  go_wp2_with fail
  refine (HNa.out _).mono ?_
  rintro en w3 ⟨rfl, rfl⟩
  go_wp2
  go_ret
  exact ⟨rfl, by first | exact hb | exact hb.setCell (by simp) _ | exact (hb.setCell (by simp) _).setCell (by simp) _⟩
set_option maxHeartbeats 1000000 in
set_option maxRecDepth 100000 in
theorem fmd_ab_1 (HF : Hid (∀ W, Calls Try.prog 30 #[.int .i64 op] W (FormIs W 5))) (HNa : Hid (∀ W, Calls Try.prog 32 #[.int .i64 a] W (Same1 W (.bool true)))) (HNb : Hid (∀ W, Calls Try.prog 32 #[.int .i64 b] W (Same1 W (.bool false)))) : Calls Try.prog 13 #[.agg #[.int .i64 op, .int .i64 a, .int .i64 b, .int .i64 k, .slice A ln c]] w (Tells w false) := by
  have HFB := Lib.hid (fb_of w op a b k (.slice A ln c) 25 25)
  go_enter Try.func13, Try.ntmps13
  go_wp2_with fail
  refine (HF.out _).mono ?_
  rintro en w2 ⟨rfl, hb2⟩
  have HFB2 := Lib.hid (HFB.out.keep hb2)
  clear hb2 HFB HF
  obtain ⟨hb, lo, hi, x0, x1, x2, x3, x4, y0, y1, y2, y3, y4, z1, z2, z3, z4⟩ := HFB2.out
  go_wp2_with fail
  refine (HNa.out _).mono ?_
  rintro en w3 ⟨rfl, rfl⟩
  go_wp2_with fail
  refine (HNb.out _).mono ?_
  rintro en w3 ⟨rfl, rfl⟩
  go_wp2
  go_ret
  exact ⟨rfl, by first | exact hb | exact hb.setCell (by simp) _ | exact (hb.setCell (by simp) _).setCell (by simp) _⟩
set_option maxHeartbeats 1000000 in
set_option maxRecDepth 100000 in
theorem fmd_ab_2 (HF : Hid (∀ W, Calls Try.prog 30 #[.int .i64 op] W (FormIs W 5))) (HNa : Hid (∀ W, Calls Try.prog 32 #[.int .i64 a] W (Same1 W (.bool true)))) (HNb : Hid (∀ W, Calls Try.prog 32 #[.int .i64 b] W (Same1 W (.bool true)))) (qk : (k == 0) = false) : Calls Try.prog 13 #[.agg #[.int .i64 op, .int .i64 a, .int .i64 b, .int .i64 k, .slice A ln c]] w (Tells w false) := by
  have HFB := Lib.hid (fb_of w op a b k (.slice A ln c) 25 25)
  go_enter Try.func13, Try.ntmps13
  go_wp2_with fail
  refine (HF.out _).mono ?_
  rintro en w2 ⟨rfl, hb2⟩
  have HFB2 := Lib.hid (HFB.out.keep hb2)
  clear hb2 HFB HF
  obtain ⟨hb, lo, hi, x0, x1, x2, x3, x4, y0, y1, y2, y3, y4, z1, z2, z3, z4⟩ := HFB2.out
  go_wp2_with fail
  refine (HNa.out _).mono ?_
  rintro en w3 ⟨rfl, rfl⟩
  go_wp2_with fail
  refine (HNb.out _).mono ?_
  rintro en w3 ⟨rfl, rfl⟩
  go_wp2
  go_ret
  exact ⟨rfl, by first | exact hb | exact hb.setCell (by simp) _ | exact (hb.setCell (by simp) _).setCell (by simp) _⟩
set_option maxHeartbeats 1000000 in
set_option maxRecDepth 100000 in
theorem fmd_ab_3 (HF : Hid (∀ W, Calls Try.prog 30 #[.int .i64 op] W (FormIs W 5))) (HNa : Hid (∀ W, Calls Try.prog 32 #[.int .i64 a] W (Same1 W (.bool true)))) (HNb : Hid (∀ W, Calls Try.prog 32 #[.int .i64 b] W (Same1 W (.bool true)))) (qk : (k == 0) = true) (qln : ((ln : Int) == 0) = false) : Calls Try.prog 13 #[.agg #[.int .i64 op, .int .i64 a, .int .i64 b, .int .i64 k, .slice A ln c]] w (Tells w false) := by
  have HFB := Lib.hid (fb_of w op a b k (.slice A ln c) 25 25)
  go_enter Try.func13, Try.ntmps13
  go_wp2_with fail
  refine (HF.out _).mono ?_
  rintro en w2 ⟨rfl, hb2⟩
  have HFB2 := Lib.hid (HFB.out.keep hb2)
  clear hb2 HFB HF
  obtain ⟨hb, lo, hi, x0, x1, x2, x3, x4, y0, y1, y2, y3, y4, z1, z2, z3, z4⟩ := HFB2.out
  go_wp2_with fail
  refine (HNa.out _).mono ?_
  rintro en w3 ⟨rfl, rfl⟩
  go_wp2_with fail
  refine (HNb.out _).mono ?_
  rintro en w3 ⟨rfl, rfl⟩
  go_wp2
  go_ret
  exact ⟨rfl, by first | exact hb | exact hb.setCell (by simp) _ | exact (hb.setCell (by simp) _).setCell (by simp) _⟩
set_option maxHeartbeats 1000000 in
set_option maxRecDepth 100000 in
theorem fmd_ab_ok (HF : Hid (∀ W, Calls Try.prog 30 #[.int .i64 op] W (FormIs W 5))) (HNa : Hid (∀ W, Calls Try.prog 32 #[.int .i64 a] W (Same1 W (.bool true)))) (HNb : Hid (∀ W, Calls Try.prog 32 #[.int .i64 b] W (Same1 W (.bool true)))) (qk : (k == 0) = true) (qln : ((ln : Int) == 0) = true) : Calls Try.prog 13 #[.agg #[.int .i64 op, .int .i64 a, .int .i64 b, .int .i64 k, .slice A ln c]] w (Tells w true) := by
  have HFB := Lib.hid (fb_of w op a b k (.slice A ln c) 25 25)
  go_enter Try.func13, Try.ntmps13
  go_wp2_with fail
  refine (HF.out _).mono ?_
  rintro en w2 ⟨rfl, hb2⟩
  have HFB2 := Lib.hid (HFB.out.keep hb2)
  clear hb2 HFB HF
  obtain ⟨hb, lo, hi, x0, x1, x2, x3, x4, y0, y1, y2, y3, y4, z1, z2, z3, z4⟩ := HFB2.out
  go_wp2_with fail
  refine (HNa.out _).mono ?_
  rintro en w3 ⟨rfl, rfl⟩
  go_wp2_with fail
  refine (HNb.out _).mono ?_
  rintro en w3 ⟨rfl, rfl⟩
  go_wp2
  go_ret
  exact ⟨rfl, by first | exact hb | exact hb.setCell (by simp) _ | exact (hb.setCell (by simp) _).setCell (by simp) _⟩
set_option maxHeartbeats 1000000 in
set_option maxRecDepth 100000 in
theorem fmd_la_0 (HF : Hid (∀ W, Calls Try.prog 30 #[.int .i64 op] W (FormIs W 6))) (HNa : Hid (∀ W, Calls Try.prog 32 #[.int .i64 a] W (Same1 W (.bool false)))) : Calls Try.prog 13 #[.agg #[.int .i64 op, .int .i64 a, .int .i64 b, .int .i64 k, .slice A ln c]] w (Tells w false) := by
  have HFB := Lib.hid (fb_of w op a b k (.slice A ln c) 25 25)
  go_enter Try.func13, Try.ntmps13
  go_wp2_with fail
  refine (HF.out _).mono ?_
  rintro en w2 ⟨rfl, hb2⟩
  have HFB2 := Lib.hid (HFB.out.keep hb2)
  clear hb2 HFB HF
  obtain ⟨hb, lo, hi, x0, x1, x2, x3, x4, y0, y1, y2, y3, y4, z1, z2, z3, z4⟩ := HFB2.out
  go_wp2_with fail
  refine (HNa.out _).mono ?_
  rintro en w3 ⟨rfl, rfl⟩
  go_wp2
  go_ret
  exact ⟨rfl, by first | exact hb | exact hb.setCell (by simp) _ | exact (hb.setCell (by simp) _).setCell (by simp) _⟩
set_option maxHeartbeats 1000000 in
set_option maxRecDepth 100000 in
theorem fmd_la_1 (HF : Hid (∀ W, Calls Try.prog 30 #[.int .i64 op] W (FormIs W 6))) (HNa : Hid (∀ W, Calls Try.prog 32 #[.int .i64 a] W (Same1 W (.bool true)))) (HLB : Hid (∀ W, Below w.heap.size w W → Calls Try.prog 33 #[.slice A ln c] W (Same1 W (.bool false)))) : Calls Try.prog 13 #[.agg #[.int .i64 op, .int .i64 a, .int .i64 b, .int .i64 k, .slice A ln c]] w (Tells w false) := by
  have HFB := Lib.hid (fb_of w op a b k (.slice A ln c) 25 25)
  go_enter Try.func13, Try.ntmps13
  go_wp2_with fail
  refine (HF.out _).mono ?_
  rintro en w2 ⟨rfl, hb2⟩
  have HFB2 := Lib.hid (HFB.out.keep hb2)
  clear hb2 HFB HF
  obtain ⟨hb, lo, hi, x0, x1, x2, x3, x4, y0, y1, y2, y3, y4, z1, z2, z3, z4⟩ := HFB2.out
  go_wp2_with fail
  refine (HNa.out _).mono ?_
  rintro en w3 ⟨rfl, rfl⟩
  go_wp2_with fail
  refine (HLB.out _ hb).mono ?_
  rintro en w3 ⟨rfl, rfl⟩
  go_wp2
  go_ret
  exact ⟨rfl, by first | exact hb | exact hb.setCell (by simp) _ | exact (hb.setCell (by simp) _).setCell (by simp) _⟩
set_option maxHeartbeats 1000000 in
set_option maxRecDepth 100000 in
theorem fmd_la_2 (HF : Hid (∀ W, Calls Try.prog 30 #[.int .i64 op] W (FormIs W 6))) (HNa : Hid (∀ W, Calls Try.prog 32 #[.int .i64 a] W (Same1 W (.bool true)))) (HLB : Hid (∀ W, Below w.heap.size w W → Calls Try.prog 33 #[.slice A ln c] W (Same1 W (.bool true)))) (qb : (b == 0) = false) : Calls Try.prog 13 #[.agg #[.int .i64 op, .int .i64 a, .int .i64 b, .int .i64 k, .slice A ln c]] w (Tells w false) := by
  have HFB := Lib.hid (fb_of w op a b k (.slice A ln c) 25 25)
  go_enter Try.func13, Try.ntmps13
  go_wp2_with fail
  refine (HF.out _).mono ?_
  rintro en w2 ⟨rfl, hb2⟩
  have HFB2 := Lib.hid (HFB.out.keep hb2)
  clear hb2 HFB HF
  obtain ⟨hb, lo, hi, x0, x1, x2, x3, x4, y0, y1, y2, y3, y4, z1, z2, z3, z4⟩ := HFB2.out
  go_wp2_with fail
  refine (HNa.out _).mono ?_
  rintro en w3 ⟨rfl, rfl⟩
  go_wp2_with fail
  refine (HLB.out _ hb).mono ?_
  rintro en w3 ⟨rfl, rfl⟩
  go_wp2
  go_ret
  exact ⟨rfl, by first | exact hb | exact hb.setCell (by simp) _ | exact (hb.setCell (by simp) _).setCell (by simp) _⟩
set_option maxHeartbeats 1000000 in
set_option maxRecDepth 100000 in
theorem fmd_la_3 (HF : Hid (∀ W, Calls Try.prog 30 #[.int .i64 op] W (FormIs W 6))) (HNa : Hid (∀ W, Calls Try.prog 32 #[.int .i64 a] W (Same1 W (.bool true)))) (HLB : Hid (∀ W, Below w.heap.size w W → Calls Try.prog 33 #[.slice A ln c] W (Same1 W (.bool true)))) (qb : (b == 0) = true) (qk : (k == 0) = false) : Calls Try.prog 13 #[.agg #[.int .i64 op, .int .i64 a, .int .i64 b, .int .i64 k, .slice A ln c]] w (Tells w false) := by
  have HFB := Lib.hid (fb_of w op a b k (.slice A ln c) 25 25)
  go_enter Try.func13, Try.ntmps13
  go_wp2_with fail
  refine (HF.out _).mono ?_
  rintro en w2 ⟨rfl, hb2⟩
  have HFB2 := Lib.hid (HFB.out.keep hb2)
  clear hb2 HFB HF
  obtain ⟨hb, lo, hi, x0, x1, x2, x3, x4, y0, y1, y2, y3, y4, z1, z2, z3, z4⟩ := HFB2.out
  go_wp2_with fail
  refine (HNa.out _).mono ?_
  rintro en w3 ⟨rfl, rfl⟩
  go_wp2_with fail
  refine (HLB.out _ hb).mono ?_
  rintro en w3 ⟨rfl, rfl⟩
  go_wp2
  go_ret
  exact ⟨rfl, by first | exact hb | exact hb.setCell (by simp) _ | exact (hb.setCell (by simp) _).setCell (by simp) _⟩
set_option maxHeartbeats 1000000 in
set_option maxRecDepth 100000 in
theorem fmd_la_ok (HF : Hid (∀ W, Calls Try.prog 30 #[.int .i64 op] W (FormIs W 6))) (HNa : Hid (∀ W, Calls Try.prog 32 #[.int .i64 a] W (Same1 W (.bool true)))) (HLB : Hid (∀ W, Below w.heap.size w W → Calls Try.prog 33 #[.slice A ln c] W (Same1 W (.bool true)))) (qb : (b == 0) = true) (qk : (k == 0) = true) : Calls Try.prog 13 #[.agg #[.int .i64 op, .int .i64 a, .int .i64 b, .int .i64 k, .slice A ln c]] w (Tells w true) := by
  have HFB := Lib.hid (fb_of w op a b k (.slice A ln c) 25 25)
  go_enter Try.func13, Try.ntmps13
  go_wp2_with fail
  refine (HF.out _).mono ?_
  rintro en w2 ⟨rfl, hb2⟩
  have HFB2 := Lib.hid (HFB.out.keep hb2)
  clear hb2 HFB HF
  obtain ⟨hb, lo, hi, x0, x1, x2, x3, x4, y0, y1, y2, y3, y4, z1, z2, z3, z4⟩ := HFB2.out
  go_wp2_with fail
  refine (HNa.out _).mono ?_
  rintro en w3 ⟨rfl, rfl⟩
  go_wp2_with fail
  refine (HLB.out _ hb).mono ?_
  rintro en w3 ⟨rfl, rfl⟩
  go_wp2
  go_ret
  exact ⟨rfl, by first | exact hb | exact hb.setCell (by simp) _ | exact (hb.setCell (by simp) _).setCell (by simp) _⟩
set_option maxHeartbeats 1000000 in
set_option maxRecDepth 100000 in
theorem fmd_z_0 (HF : Hid (∀ W, Calls Try.prog 30 #[.int .i64 op] W (FormIs W 7))) (qa : (a == 0) = false) : Calls Try.prog 13 #[.agg #[.int .i64 op, .int .i64 a, .int .i64 b, .int .i64 k, .slice A ln c]] w (Tells w false) := by
  have HFB := Lib.hid (fb_of w op a b k (.slice A ln c) 25 25)
  go_enter Try.func13, Try.ntmps13
  go_wp2_with fail
  refine (HF.out _).mono ?_
  rintro en w2 ⟨rfl, hb2⟩
  have HFB2 := Lib.hid (HFB.out.keep hb2)
  clear hb2 HFB HF
  obtain ⟨hb, lo, hi, x0, x1, x2, x3, x4, y0, y1, y2, y3, y4, z1, z2, z3, z4⟩ := HFB2.out
  go_wp2
  go_ret
  exact ⟨rfl, by first | exact hb | exact hb.setCell (by simp) _ | exact (hb.setCell (by simp) _).setCell (by simp) _⟩
set_option maxHeartbeats 1000000 in
set_option maxRecDepth 100000 in
theorem fmd_z_1 (HF : Hid (∀ W, Calls Try.prog 30 #[.int .i64 op] W (FormIs W 7))) (qa : (a == 0) = true) (qb : (b == 0) = false) : Calls Try.prog 13 #[.agg #[.int .i64 op, .int .i64 a, .int .i64 b, .int .i64 k, .slice A ln c]] w (Tells w false) := by
  have HFB := Lib.hid (fb_of w op a b k (.slice A ln c) 25 25)
  go_enter Try.func13, Try.ntmps13
  go_wp2_with fail
  refine (HF.out _).mono ?_
  rintro en w2 ⟨rfl, hb2⟩
  have HFB2 := Lib.hid (HFB.out.keep hb2)
  clear hb2 HFB HF
  obtain ⟨hb, lo, hi, x0, x1, x2, x3, x4, y0, y1, y2, y3, y4, z1, z2, z3, z4⟩ := HFB2.out
  go_wp2
  go_ret
  exact ⟨rfl, by first | exact hb | exact hb.setCell (by simp) _ | exact (hb.setCell (by simp) _).setCell (by simp) _⟩
set_option maxHeartbeats 1000000 in
set_option maxRecDepth 100000 in
theorem fmd_z_2 (HF : Hid (∀ W, Calls Try.prog 30 #[.int .i64 op] W (FormIs W 7))) (qa : (a == 0) = true) (qb : (b == 0) = true) (qk : (k == 0) = false) : Calls Try.prog 13 #[.agg #[.int .i64 op, .int .i64 a, .int .i64 b, .int .i64 k, .slice A ln c]] w (Tells w false) := by
  have HFB := Lib.hid (fb_of w op a b k (.slice A ln c) 25 25)
  go_enter Try.func13, Try.ntmps13
  go_wp2_with fail
  refine (HF.out _).mono ?_
  rintro en w2 ⟨rfl, hb2⟩
  have HFB2 := Lib.hid (HFB.out.keep hb2)
  clear hb2 HFB HF
  obtain ⟨hb, lo, hi, x0, x1, x2, x3, x4, y0, y1, y2, y3, y4, z1, z2, z3, z4⟩ := HFB2.out
  go_wp2
  go_ret
  exact ⟨rfl, by first | exact hb | exact hb.setCell (by simp) _ | exact (hb.setCell (by simp) _).setCell (by simp) _⟩
set_option maxHeartbeats 1000000 in
set_option maxRecDepth 100000 in
theorem fmd_z_3 (HF : Hid (∀ W, Calls Try.prog 30 #[.int .i64 op] W (FormIs W 7))) (qa : (a == 0) = true) (qb : (b == 0) = true) (qk : (k == 0) = true) (qln : ((ln : Int) == 0) = false) : Calls Try.prog 13 #[.agg #[.int .i64 op, .int .i64 a, .int .i64 b, .int .i64 k, .slice A ln c]] w (Tells w false) := by
  have HFB := Lib.hid (fb_of w op a b k (.slice A ln c) 25 25)
  go_enter Try.func13, Try.ntmps13
  go_wp2_with fail
  refine (HF.out _).mono ?_
  rintro en w2 ⟨rfl, hb2⟩
  have HFB2 := Lib.hid (HFB.out.keep hb2)
  clear hb2 HFB HF
  obtain ⟨hb, lo, hi, x0, x1, x2, x3, x4, y0, y1, y2, y3, y4, z1, z2, z3, z4⟩ := HFB2.out
  go_wp2
  go_ret
  exact ⟨rfl, by first | exact hb | exact hb.setCell (by simp) _ | exact (hb.setCell (by simp) _).setCell (by simp) _⟩
set_option maxHeartbeats 1000000 in
set_option maxRecDepth 100000 in
theorem fmd_z_ok (HF : Hid (∀ W, Calls Try.prog 30 #[.int .i64 op] W (FormIs W 7))) (qa : (a == 0) = true) (qb : (b == 0) = true) (qk : (k == 0) = true) (qln : ((ln : Int) == 0) = true) : Calls Try.prog 13 #[.agg #[.int .i64 op, .int .i64 a, .int .i64 b, .int .i64 k, .slice A ln c]] w (Tells w true) := by
  have HFB := Lib.hid (fb_of w op a b k (.slice A ln c) 25 25)
  go_enter Try.func13, Try.ntmps13
  go_wp2_with fail
  refine (HF.out _).mono ?_
  rintro en w2 ⟨rfl, hb2⟩
  have HFB2 := Lib.hid (HFB.out.keep hb2)
  clear hb2 HFB HF
  obtain ⟨hb, lo, hi, x0, x1, x2, x3, x4, y0, y1, y2, y3, y4, z1, z2, z3, z4⟩ := HFB2.out
  go_wp2
  go_ret
  exact ⟨rfl, by first | exact hb | exact hb.setCell (by simp) _ | exact (hb.setCell (by simp) _).setCell (by simp) _⟩
set_option maxHeartbeats 1000000 in
set_option maxRecDepth 100000 in
theorem fmd_zz_0 (HF : Hid (∀ W, Calls Try.prog 30 #[.int .i64 op] W (FormIs W 8))) (qa : (a == 0) = false) : Calls Try.prog 13 #[.agg #[.int .i64 op, .int .i64 a, .int .i64 b, .int .i64 k, .slice A ln c]] w (Tells w false) := by
  have HFB := Lib.hid (fb_of w op a b k (.slice A ln c) 25 25)
  go_enter Try.func13, Try.ntmps13
  go_wp2_with fail
  refine (HF.out _).mono ?_
  rintro en w2 ⟨rfl, hb2⟩
  have HFB2 := Lib.hid (HFB.out.keep hb2)
  clear hb2 HFB HF
  obtain ⟨hb, lo, hi, x0, x1, x2, x3, x4, y0, y1, y2, y3, y4, z1, z2, z3, z4⟩ := HFB2.out
  go_wp2
  go_ret
  exact ⟨rfl, by first | exact hb | exact hb.setCell (by simp) _ | exact (hb.setCell (by simp) _).setCell (by simp) _⟩
set_option maxHeartbeats 1000000 in
set_option maxRecDepth 100000 in
theorem fmd_zz_1 (HF : Hid (∀ W, Calls Try.prog 30 #[.int .i64 op] W (FormIs W 8))) (qa : (a == 0) = true) (qb : (b == 0) = false) : Calls Try.prog 13 #[.agg #[.int .i64 op, .int .i64 a, .int .i64 b, .int .i64 k, .slice A ln c]] w (Tells w false) := by
  have HFB := Lib.hid (fb_of w op a b k (.slice A ln c) 25 25)
  go_enter Try.func13, Try.ntmps13
  go_wp2_with fail
  refine (HF.out _).mono ?_
  rintro en w2 ⟨rfl, hb2⟩
  have HFB2 := Lib.hid (HFB.out.keep hb2)
  clear hb2 HFB HF
  obtain ⟨hb, lo, hi, x0, x1, x2, x3, x4, y0, y1, y2, y3, y4, z1, z2, z3, z4⟩ := HFB2.out
  go_wp2
  go_ret
  exact ⟨rfl, by first | exact hb | exact hb.setCell (by simp) _ | exact (hb.setCell (by simp) _).setCell (by simp) _⟩
set_option maxHeartbeats 1000000 in
set_option maxRecDepth 100000 in
theorem fmd_zz_2 (HF : Hid (∀ W, Calls Try.prog 30 #[.int .i64 op] W (FormIs W 8))) (qa : (a == 0) = true) (qb : (b == 0) = true) (qk : (k == 0) = false) : Calls Try.prog 13 #[.agg #[.int .i64 op, .int .i64 a, .int .i64 b, .int .i64 k, .slice A ln c]] w (Tells w false) := by
  have HFB := Lib.hid (fb_of w op a b k (.slice A ln c) 25 25)
  go_enter Try.func13, Try.ntmps13
  go_wp2_with fail
  refine (HF.out _).mono ?_
  rintro en w2 ⟨rfl, hb2⟩
  have HFB2 := Lib.hid (HFB.out.keep hb2)
  clear hb2 HFB HF
  obtain ⟨hb, lo, hi, x0, x1, x2, x3, x4, y0, y1, y2, y3, y4, z1, z2, z3, z4⟩ := HFB2.out
  go_wp2
  go_ret
  exact ⟨rfl, by first | exact hb | exact hb.setCell (by simp) _ | exact (hb.setCell (by simp) _).setCell (by simp) _⟩
set_option maxHeartbeats 1000000 in
set_option maxRecDepth 100000 in
theorem fmd_zz_3 (HF : Hid (∀ W, Calls Try.prog 30 #[.int .i64 op] W (FormIs W 8))) (qa : (a == 0) = true) (qb : (b == 0) = true) (qk : (k == 0) = true) (qln : ((ln : Int) == 0) = false) : Calls Try.prog 13 #[.agg #[.int .i64 op, .int .i64 a, .int .i64 b, .int .i64 k, .slice A ln c]] w (Tells w false) := by
  have HFB := Lib.hid (fb_of w op a b k (.slice A ln c) 25 25)
  go_enter Try.func13, Try.ntmps13
  go_wp2_with fail
  refine (HF.out _).mono ?_
  rintro en w2 ⟨rfl, hb2⟩
  have HFB2 := Lib.hid (HFB.out.keep hb2)
  clear hb2 HFB HF
  obtain ⟨hb, lo, hi, x0, x1, x2, x3, x4, y0, y1, y2, y3, y4, z1, z2, z3, z4⟩ := HFB2.out
  go_wp2
  go_ret
  exact ⟨rfl, by first | exact hb | exact hb.setCell (by simp) _ | exact (hb.setCell (by simp) _).setCell (by simp) _⟩
set_option maxHeartbeats 1000000 in
set_option maxRecDepth 100000 in
theorem fmd_zz_ok (HF : Hid (∀ W, Calls Try.prog 30 #[.int .i64 op] W (FormIs W 8))) (qa : (a == 0) = true) (qb : (b == 0) = true) (qk : (k == 0) = true) (qln : ((ln : Int) == 0) = true) : Calls Try.prog 13 #[.agg #[.int .i64 op, .int .i64 a, .int .i64 b, .int .i64 k, .slice A ln c]] w (Tells w true) := by
  have HFB := Lib.hid (fb_of w op a b k (.slice A ln c) 25 25)
  go_enter Try.func13, Try.ntmps13
  go_wp2_with fail
  refine (HF.out _).mono ?_
  rintro en w2 ⟨rfl, hb2⟩
  have HFB2 := Lib.hid (HFB.out.keep hb2)
  clear hb2 HFB HF
  obtain ⟨hb, lo, hi, x0, x1, x2, x3, x4, y0, y1, y2, y3, y4, z1, z2, z3, z4⟩ := HFB2.out
  go_wp2
  go_ret
  exact ⟨rfl, by first | exact hb | exact hb.setCell (by simp) _ | exact (hb.setCell (by simp) _).setCell (by simp) _⟩
set_option maxHeartbeats 1000000 in
set_option maxRecDepth 100000 in
theorem fmd_az_0 (HF : Hid (∀ W, Calls Try.prog 30 #[.int .i64 op] W (FormIs W 9))) (HNa : Hid (∀ W, Calls Try.prog 32 #[.int .i64 a] W (Same1 W (.bool false)))) : Calls Try.prog 13 #[.agg #[.int .i64 op, .int .i64 a, .int .i64 b, .int .i64 k, .slice A ln c]] w (Tells w false) := by
  have HFB := Lib.hid (fb_of w op a b k (.slice A ln c) 25 25)
  go_enter Try.func13, Try.ntmps13
  go_wp2_with fail
  refine (HF.out _).mono ?_
  rintro en w2 ⟨rfl, hb2⟩
  have HFB2 := Lib.hid (HFB.out.keep hb2)
  clear hb2 HFB HF
  obtain ⟨hb, lo, hi, x0, x1, x2, x3, x4, y0, y1, y2, y3, y4, z1, z2, z3, z4⟩ := HFB2.out
  go_wp2_with fail
  refine (HNa.out _).mono ?_
  rintro en w3 ⟨rfl, rfl⟩
  go_wp2
  go_ret
  exact ⟨rfl, by first | exact hb | exact hb.setCell (by simp) _ | exact (hb.setCell (by simp) _).setCell (by simp) _⟩
set_option maxHeartbeats 1000000 in
set_option maxRecDepth 100000 in
theorem fmd_az_1 (HF : Hid (∀ W, Calls Try.prog 30 #[.int .i64 op] W (FormIs W 9))) (HNa : Hid (∀ W, Calls Try.prog 32 #[.int .i64 a] W (Same1 W (.bool true)))) (qb : (b == 0) = false) : Calls Try.prog 13 #[.agg #[.int .i64 op, .int .i64 a, .int .i64 b, .int .i64 k, .slice A ln c]] w (Tells w false) := by
  have HFB := Lib.hid (fb_of w op a b k (.slice A ln c) 25 25)
  go_enter Try.func13, Try.ntmps13
  go_wp2_with fail
  refine (HF.out _).mono ?_
  rintro en w2 ⟨rfl, hb2⟩
  have HFB2 := Lib.hid (HFB.out.keep hb2)
  clear hb2 HFB HF
  obtain ⟨hb, lo, hi, x0, x1, x2, x3, x4, y0, y1, y2, y3, y4, z1, z2, z3, z4⟩ := HFB2.out
  go_wp2_with fail
  refine (HNa.out _).mono ?_
  rintro en w3 ⟨rfl, rfl⟩
  go_wp2
  go_ret
  exact ⟨rfl, by first | exact hb | exact hb.setCell (by simp) _ | exact (hb.setCell (by simp) _).setCell (by simp) _⟩
set_option maxHeartbeats 1000000 in
set_option maxRecDepth 100000 in
theorem fmd_az_2 (HF : Hid (∀ W, Calls Try.prog 30 #[.int .i64 op] W (FormIs W 9))) (HNa : Hid (∀ W, Calls Try.prog 32 #[.int .i64 a] W (Same1 W (.bool true)))) (qb : (b == 0) = true) (qk : (k == 0) = false) : Calls Try.prog 13 #[.agg #[.int .i64 op, .int .i64 a, .int .i64 b, .int .i64 k, .slice A ln c]] w (Tells w false) := by
  have HFB := Lib.hid (fb_of w op a b k (.slice A ln c) 25 25)
  go_enter Try.func13, Try.ntmps13
  go_wp2_with fail
  refine (HF.out _).mono ?_
  rintro en w2 ⟨rfl, hb2⟩
  have HFB2 := Lib.hid (HFB.out.keep hb2)
  clear hb2 HFB HF
  obtain ⟨hb, lo, hi, x0, x1, x2, x3, x4, y0, y1, y2, y3, y4, z1, z2, z3, z4⟩ := HFB2.out
  go_wp2_with fail
  refine (HNa.out _).mono ?_
  rintro en w3 ⟨rfl, rfl⟩
  go_wp2
  go_ret
  exact ⟨rfl, by first | exact hb | exact hb.setCell (by simp) _ | exact (hb.setCell (by simp) _).setCell (by simp) _⟩
set_option maxHeartbeats 1000000 in
set_option maxRecDepth 100000 in
theorem fmd_az_3 (HF : Hid (∀ W, Calls Try.prog 30 #[.int .i64 op] W (FormIs W 9))) (HNa : Hid (∀ W, Calls Try.prog 32 #[.int .i64 a] W (Same1 W (.bool true)))) (qb : (b == 0) = true) (qk : (k == 0) = true) (qln : ((ln : Int) == 0) = false) : Calls Try.prog 13 #[.agg #[.int .i64 op, .int .i64 a, .int .i64 b, .int .i64 k, .slice A ln c]] w (Tells w false) := by
  have HFB := Lib.hid (fb_of w op a b k (.slice A ln c) 25 25)
  go_enter Try.func13, Try.ntmps13
  go_wp2_with fail
  refine (HF.out _).mono ?_
  rintro en w2 ⟨rfl, hb2⟩
  have HFB2 := Lib.hid (HFB.out.keep hb2)
  clear hb2 HFB HF
  obtain ⟨hb, lo, hi, x0, x1, x2, x3, x4, y0, y1, y2, y3, y4, z1, z2, z3, z4⟩ := HFB2.out
  go_wp2_with fail
  refine (HNa.out _).mono ?_
  rintro en w3 ⟨rfl, rfl⟩
  go_wp2
  go_ret
  exact ⟨rfl, by first | exact hb | exact hb.setCell (by simp) _ | exact (hb.setCell (by simp) _).setCell (by simp) _⟩
set_option maxHeartbeats 1000000 in
set_option maxRecDepth 100000 in
theorem fmd_az_ok (HF : Hid (∀ W, Calls Try.prog 30 #[.int .i64 op] W (FormIs W 9))) (HNa : Hid (∀ W, Calls Try.prog 32 #[.int .i64 a] W (Same1 W (.bool true)))) (qb : (b == 0) = true) (qk : (k == 0) = true) (qln : ((ln : Int) == 0) = true) : Calls Try.prog 13 #[.agg #[.int .i64 op, .int .i64 a, .int .i64 b, .int .i64 k, .slice A ln c]] w (Tells w true) := by
  have HFB := Lib.hid (fb_of w op a b k (.slice A ln c) 25 25)
  go_enter Try.func13, Try.ntmps13
  go_wp2_with fail
  refine (HF.out _).mono ?_
  rintro en w2 ⟨rfl, hb2⟩
  have HFB2 := Lib.hid (HFB.out.keep hb2)
  clear hb2 HFB HF
  obtain ⟨hb, lo, hi, x0, x1, x2, x3, x4, y0, y1, y2, y3, y4, z1, z2, z3, z4⟩ := HFB2.out
  go_wp2_with fail
  refine (HNa.out _).mono ?_
  rintro en w3 ⟨rfl, rfl⟩
  go_wp2
  go_ret
  exact ⟨rfl, by first | exact hb | exact hb.setCell (by simp) _ | exact (hb.setCell (by simp) _).setCell (by simp) _⟩
set_option maxHeartbeats 1000000 in
set_option maxRecDepth 100000 in
theorem fmd_k_0 (HF : Hid (∀ W, Calls Try.prog 30 #[.int .i64 op] W (FormIs W 10))) (HK : Hid (∀ W, Calls Try.prog 34 #[.int .i64 k] W (Same1 W (.bool false)))) : Calls Try.prog 13 #[.agg #[.int .i64 op, .int .i64 a, .int .i64 b, .int .i64 k, .slice A ln c]] w (Tells w false) := by
  have HFB := Lib.hid (fb_of w op a b k (.slice A ln c) 25 25)
  go_enter Try.func13, Try.ntmps13
  go_wp2_with fail
  refine (HF.out _).mono ?_
  rintro en w2 ⟨rfl, hb2⟩
  have HFB2 := Lib.hid (HFB.out.keep hb2)
  clear hb2 HFB HF
  obtain ⟨hb, lo, hi, x0, x1, x2, x3, x4, y0, y1, y2, y3, y4, z1, z2, z3, z4⟩ := HFB2.out
  go_wp2_with fail
  refine (HK.out _).mono ?_
  rintro en w3 ⟨rfl, rfl⟩
  go_wp2
  go_ret
  exact ⟨rfl, by first | exact hb | exact hb.setCell (by simp) _ | exact (hb.setCell (by simp) _).setCell (by simp) _⟩
set_option maxHeartbeats 1000000 in
set_option maxRecDepth 100000 in
theorem fmd_k_1 (HF : Hid (∀ W, Calls Try.prog 30 #[.int .i64 op] W (FormIs W 10))) (HK : Hid (∀ W, Calls Try.prog 34 #[.int .i64 k] W (Same1 W (.bool true)))) (qa : (a == 0) = false) : Calls Try.prog 13 #[.agg #[.int .i64 op, .int .i64 a, .int .i64 b, .int .i64 k, .slice A ln c]] w (Tells w false) := by
  have HFB := Lib.hid (fb_of w op a b k (.slice A ln c) 25 25)
  go_enter Try.func13, Try.ntmps13
  go_wp2_with fail
  refine (HF.out _).mono ?_
  rintro en w2 ⟨rfl, hb2⟩
  have HFB2 := Lib.hid (HFB.out.keep hb2)
  clear hb2 HFB HF
  obtain ⟨hb, lo, hi, x0, x1, x2, x3, x4, y0, y1, y2, y3, y4, z1, z2, z3, z4⟩ := HFB2.out
  go_wp2_with fail
  refine (HK.out _).mono ?_
  rintro en w3 ⟨rfl, rfl⟩
  go_wp2
  go_ret
  exact ⟨rfl, by first | exact hb | exact hb.setCell (by simp) _ | exact (hb.setCell (by simp) _).setCell (by simp) _⟩
set_option maxHeartbeats 1000000 in
set_option maxRecDepth 100000 in
theorem fmd_k_2 (HF : Hid (∀ W, Calls Try.prog 30 #[.int .i64 op] W (FormIs W 10))) (HK : Hid (∀ W, Calls Try.prog 34 #[.int .i64 k] W (Same1 W (.bool true)))) (qa : (a == 0) = true) (qb : (b == 0) = false) : Calls Try.prog 13 #[.agg #[.int .i64 op, .int .i64 a, .int .i64 b, .int .i64 k, .slice A ln c]] w (Tells w false) := by
  have HFB := Lib.hid (fb_of w op a b k (.slice A ln c) 25 25)
  go_enter Try.func13, Try.ntmps13
  go_wp2_with fail
  refine (HF.out _).mono ?_
  rintro en w2 ⟨rfl, hb2⟩
  have HFB2 := Lib.hid (HFB.out.keep hb2)
  clear hb2 HFB HF
  obtain ⟨hb, lo, hi, x0, x1, x2, x3, x4, y0, y1, y2, y3, y4, z1, z2, z3, z4⟩ := HFB2.out
  go_wp2_with fail
  refine (HK.out _).mono ?_
  rintro en w3 ⟨rfl, rfl⟩
  go_wp2
  go_ret
  exact ⟨rfl, by first | exact hb | exact hb.setCell (by simp) _ | exact (hb.setCell (by simp) _).setCell (by simp) _⟩
set_option maxHeartbeats 1000000 in
set_option maxRecDepth 100000 in
theorem fmd_k_3 (HF : Hid (∀ W, Calls Try.prog 30 #[.int .i64 op] W (FormIs W 10))) (HK : Hid (∀ W, Calls Try.prog 34 #[.int .i64 k] W (Same1 W (.bool true)))) (qa : (a == 0) = true) (qb : (b == 0) = true) (qln : ((ln : Int) == 0) = false) : Calls Try.prog 13 #[.agg #[.int .i64 op, .int .i64 a, .int .i64 b, .int .i64 k, .slice A ln c]] w (Tells w false) := by
  have HFB := Lib.hid (fb_of w op a b k (.slice A ln c) 25 25)
  go_enter Try.func13, Try.ntmps13
  go_wp2_with fail
  refine (HF.out _).mono ?_
  rintro en w2 ⟨rfl, hb2⟩
  have HFB2 := Lib.hid (HFB.out.keep hb2)
  clear hb2 HFB HF
  obtain ⟨hb, lo, hi, x0, x1, x2, x3, x4, y0, y1, y2, y3, y4, z1, z2, z3, z4⟩ := HFB2.out
  go_wp2_with fail
  refine (HK.out _).mono ?_
  rintro en w3 ⟨rfl, rfl⟩
  go_wp2
  go_ret
  exact ⟨rfl, by first | exact hb | exact hb.setCell (by simp) _ | exact (hb.setCell (by simp) _).setCell (by simp) _⟩
set_option maxHeartbeats 1000000 in
set_option maxRecDepth 100000 in
theorem fmd_k_ok (HF : Hid (∀ W, Calls Try.prog 30 #[.int .i64 op] W (FormIs W 10))) (HK : Hid (∀ W, Calls Try.prog 34 #[.int .i64 k] W (Same1 W (.bool true)))) (qa : (a == 0) = true) (qb : (b == 0) = true) (qln : ((ln : Int) == 0) = true) : Calls Try.prog 13 #[.agg #[.int .i64 op, .int .i64 a, .int .i64 b, .int .i64 k, .slice A ln c]] w (Tells w true) := by
  have HFB := Lib.hid (fb_of w op a b k (.slice A ln c) 25 25)
  go_enter Try.func13, Try.ntmps13
  go_wp2_with fail
  refine (HF.out _).mono ?_
  rintro en w2 ⟨rfl, hb2⟩
  have HFB2 := Lib.hid (HFB.out.keep hb2)
  clear hb2 HFB HF
  obtain ⟨hb, lo, hi, x0, x1, x2, x3, x4, y0, y1, y2, y3, y4, z1, z2, z3, z4⟩ := HFB2.out
  go_wp2_with fail
  refine (HK.out _).mono ?_
  rintro en w3 ⟨rfl, rfl⟩
  go_wp2
  go_ret
  exact ⟨rfl, by first | exact hb | exact hb.setCell (by simp) _ | exact (hb.setCell (by simp) _).setCell (by simp) _⟩
set_option maxHeartbeats 1000000 in
set_option maxRecDepth 100000 in
theorem fmd_kk_0 (HF : Hid (∀ W, Calls Try.prog 30 #[.int .i64 op] W (FormIs W 11))) (qa : (a == 0) = false) : Calls Try.prog 13 #[.agg #[.int .i64 op, .int .i64 a, .int .i64 b, .int .i64 k, .slice A ln c]] w (Tells w false) := by
  have HFB := Lib.hid (fb_of w op a b k (.slice A ln c) 25 25)
  go_enter Try.func13, Try.ntmps13
  go_wp2_with fail
  refine (HF.out _).mono ?_
  rintro en w2 ⟨rfl, hb2⟩
  have HFB2 := Lib.hid (HFB.out.keep hb2)
  clear hb2 HFB HF
  obtain ⟨hb, lo, hi, x0, x1, x2, x3, x4, y0, y1, y2, y3, y4, z1, z2, z3, z4⟩ := HFB2.out
  go_wp2
  go_ret
  exact ⟨rfl, by first | exact hb | exact hb.setCell (by simp) _ | exact (hb.setCell (by simp) _).setCell (by simp) _⟩
set_option maxHeartbeats 1000000 in
set_option maxRecDepth 100000 in
theorem fmd_kk_1 (HF : Hid (∀ W, Calls Try.prog 30 #[.int .i64 op] W (FormIs W 11))) (qa : (a == 0) = true) (qb : (b == 0) = false) : Calls Try.prog 13 #[.agg #[.int .i64 op, .int .i64 a, .int .i64 b, .int .i64 k, .slice A ln c]] w (Tells w false) := by
  have HFB := Lib.hid (fb_of w op a b k (.slice A ln c) 25 25)
  go_enter Try.func13, Try.ntmps13
  go_wp2_with fail
  refine (HF.out _).mono ?_
  rintro en w2 ⟨rfl, hb2⟩
  have HFB2 := Lib.hid (HFB.out.keep hb2)
  clear hb2 HFB HF
  obtain ⟨hb, lo, hi, x0, x1, x2, x3, x4, y0, y1, y2, y3, y4, z1, z2, z3, z4⟩ := HFB2.out
  go_wp2
  go_ret
  exact ⟨rfl, by first | exact hb | exact hb.setCell (by simp) _ | exact (hb.setCell (by simp) _).setCell (by simp) _⟩
set_option maxHeartbeats 1000000 in
set_option maxRecDepth 100000 in
theorem fmd_kk_2 (HF : Hid (∀ W, Calls Try.prog 30 #[.int .i64 op] W (FormIs W 11))) (qa : (a == 0) = true) (qb : (b == 0) = true) (qln : ((ln : Int) == 0) = false) : Calls Try.prog 13 #[.agg #[.int .i64 op, .int .i64 a, .int .i64 b, .int .i64 k, .slice A ln c]] w (Tells w false) := by
  have HFB := Lib.hid (fb_of w op a b k (.slice A ln c) 25 25)
  go_enter Try.func13, Try.ntmps13
  go_wp2_with fail
  refine (HF.out _).mono ?_
  rintro en w2 ⟨rfl, hb2⟩
  have HFB2 := Lib.hid (HFB.out.keep hb2)
  clear hb2 HFB HF
  obtain ⟨hb, lo, hi, x0, x1, x2, x3, x4, y0, y1, y2, y3, y4, z1, z2, z3, z4⟩ := HFB2.out
  go_wp2
  go_ret
  exact ⟨rfl, by first | exact hb | exact hb.setCell (by simp) _ | exact (hb.setCell (by simp) _).setCell (by simp) _⟩
set_option maxHeartbeats 1000000 in
set_option maxRecDepth 100000 in
theorem fmd_kk_ok (HF : Hid (∀ W, Calls Try.prog 30 #[.int .i64 op] W (FormIs W 11))) (qa : (a == 0) = true) (qb : (b == 0) = true) (qln : ((ln : Int) == 0) = true) : Calls Try.prog 13 #[.agg #[.int .i64 op, .int .i64 a, .int .i64 b, .int .i64 k, .slice A ln c]] w (Tells w true) := by
  have HFB := Lib.hid (fb_of w op a b k (.slice A ln c) 25 25)
  go_enter Try.func13, Try.ntmps13
  go_wp2_with fail
  refine (HF.out _).mono ?_
  rintro en w2 ⟨rfl, hb2⟩
  have HFB2 := Lib.hid (HFB.out.keep hb2)
  clear hb2 HFB HF
  obtain ⟨hb, lo, hi, x0, x1, x2, x3, x4, y0, y1, y2, y3, y4, z1, z2, z3, z4⟩ := HFB2.out
  go_wp2
  go_ret
  exact ⟨rfl, by first | exact hb | exact hb.setCell (by simp) _ | exact (hb.setCell (by simp) _).setCell (by simp) _⟩
end
theorem formed_lit {x : Ins} {qs : List Part} (h : pat x.op = some (some qs)) : formedB x = decide ((∀ r ∈ qs, partFits x r) ∧ setParts x qs { zeroIns with op := x.op } = x) := by
  unfold formedB
  rw [h]
end Go.Proofs.Ytdipgokbfjbgfaa.Ins
