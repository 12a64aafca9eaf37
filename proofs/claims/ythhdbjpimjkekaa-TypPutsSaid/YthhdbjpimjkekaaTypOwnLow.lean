/-
  typ's small functions, and slices.Index, Contains, Clone at bytes: what each comes to. Conditions: slices lead to bytes, or ints, in memory; lengths as each says.
-/
import Derived.Test.YthhdbjpimjkekaaTypDoes
import Derived.Lib.SliceRun
namespace Go.Proofs.Ythhdbjpimjkekaa.Typ
open Go.RowKit Leb

def Same1 (w : World) (v : Value) (e : Ending) (w' : World) : Prop := e = .returned v ∧ w = w'
set_option maxHeartbeats 1000000 in
theorem index_any (A : Option Addr) (l : List Nat) (c B x : Nat) (w : World) (hb : Bytes w B A l) (h47 : l.length ≤ 1000) :
    Calls Try.prog 52 #[.slice A l.length c, .int .u8 (x : Int)] w fun e w' => ∃ k : Int, e = .returned (.int .i64 k) ∧ w = w' ∧ (0 ≤ k ↔ x ∈ l) := by
  go_enter Try.func52, Try.ntmps52
  go_wp2
  go_loop [8] (fun i => ∃ k : Nat, k ≤ l.length ∧ i = .int .i64 (k : Int) ∧ Hid (x ∉ l.take k)) (fun i => l.length - (intOf i).toNat)
  case atStart => exact ⟨0, Nat.zero_le _, rfl, Lib.hid (by simp)⟩
  case round =>
    obtain ⟨k, hk, rfl, HK⟩ := hrel
    by_cases hlt : k < l.length
    · obtain ⟨b, off, rfl, _, hcs⟩ := hb.2 (by omega)
      have hc := hcs k hlt
      have hlti : (k : Int) < (l.length : Int) := by omega
      have HN : Hid (x ≠ l[k] → x ∉ l.take (k + 1)) := Lib.hid fun h hx => by
        rw [List.take_succ_eq_append_getElem hlt] at hx
        rcases List.mem_append.1 hx with hx | hx
        · exact HK.out hx
        · exact h (by simpa using hx)
      have HM := Lib.hid (List.getElem_mem hlt)
      clear hcs hb HK
      generalize l[k] = y at *
      by_cases hxy : x = y
      · subst hxy
        have hbb : (((x : Nat) : Int) == ((x : Nat) : Int)) = true := by simp
        go_wp2
        go_ret
        exact ⟨_, rfl, rfl, iff_of_true (by omega) HM.out⟩
      · have hbb : ((x : Int) == (y : Int)) = false := by simp; omega
        have HN2 := Lib.hid (HN.out hxy)
        clear hxy HN
        go_wp2
        go_round
        case rel => exact ⟨k + 1, by omega, by go_num, HN2⟩
        case measure => simp [intOf]; omega
    · have hlti : ¬ (k : Int) < (l.length : Int) := by omega
      have HE : Hid (x ∉ l) := Lib.hid (by have := HK.out; rwa [List.take_of_length_le (by omega)] at this)
      clear HK hb
      go_wp2
      go_ret
      exact ⟨_, rfl, rfl, iff_of_false (by decide) HE.out⟩
theorem contains_any (A : Option Addr) (l : List Nat) (c B x : Nat) (w : World) (hb : Bytes w B A l) (h47 : l.length ≤ 1000) :
    Calls Try.prog 44 #[.slice A l.length c, .int .u8 (x : Int)] w (Same1 w (.bool (decide (x ∈ l)))) := by
  have HI := Lib.hid (index_any A l c B x w hb h47)
  clear hb h47
  go_enter Try.func44, Try.ntmps44
  go_wp2_with fail
  refine HI.out.mono ?_
  rintro e w1 ⟨k, rfl, rfl, hk⟩
  have HK := Lib.hid hk
  clear hk HI
  go_wp2
  go_ret
  exact ⟨ret_bool (decide_eq_decide.2 HK.out), rfl⟩
/-- What begins answers. -/
def bgRes (l fs : List Nat) : Nat := if l.length < 1 then 1 else if l.getD 0 0 ∈ fs then 0 else 2
theorem begins_0 (A : Option Addr) (c : Nat) (v : Value) (w : World) : Calls Try.prog 28 #[.slice A 0 c, v] w (Same1 w (.int .i64 1)) := by
  go_enter Try.func28, Try.ntmps28
  go_wp2
  go_ret
  exact ⟨rfl, rfl⟩
theorem begins_1 (b off len c x : Nat) (v : Value) (w : World) (hl : 1 ≤ len) (hc : w.cell? ⟨b, off, none⟩ = some (.int .u8 (x : Int))) (bb : Bool) (HC : Hid (Calls Try.prog 44 #[v, .int .u8 (x : Int)] w (Same1 w (.bool bb)))) :
    Calls Try.prog 28 #[.slice (some ⟨b, off, none⟩) len c, v] w (Same1 w (.int .i64 (if bb then 0 else 2))) := by
  have hl0 : ((len : Int) == 0) = false := by simp; omega
  cases bb with
  | true =>
    go_enter Try.func28, Try.ntmps28
    go_wp2_with fail
    refine HC.out.mono ?_
    rintro e w1 ⟨rfl, rfl⟩
    go_wp2
    go_ret
    exact ⟨rfl, rfl⟩
  | false =>
    go_enter Try.func28, Try.ntmps28
    go_wp2_with fail
    refine HC.out.mono ?_
    rintro e w1 ⟨rfl, rfl⟩
    go_wp2
    go_ret
    exact ⟨rfl, rfl⟩
theorem begins_any (A A' : Option Addr) (l fs : List Nat) (c c' B B' : Nat) (w : World) (hb : Bytes w B A l) (hb' : Bytes w B' A' fs) (h47 : fs.length ≤ 1000) :
    Calls Try.prog 28 #[.slice A l.length c, .slice A' fs.length c'] w (Same1 w (.int .i64 (bgRes l fs : Nat))) := by
  unfold bgRes
  by_cases h0 : l.length < 1
  · have hl : l.length = 0 := by omega
    rw [if_pos h0, hl]
    exact begins_0 A c _ w
  rw [if_neg h0]
  obtain ⟨b, off, rfl, hbl, hcs⟩ := hb.2 (by omega)
  have hc := hcs 0 (by omega)
  have hd : l.getD 0 0 = l[0] := by simp [List.getD, List.getElem?_eq_getElem (show 0 < l.length by omega)]
  rw [hd]
  rw [Nat.add_zero] at hc
  have := begins_1 b off l.length c l[0] (.slice A' fs.length c') w (by omega) hc _ (Lib.hid (contains_any A' fs c' B' l[0] w hb' h47))
  by_cases hm : l[0] ∈ fs
  · rw [if_pos hm]; rw [decide_eq_true hm] at this; exact this
  · rw [if_neg hm]; rw [decide_eq_false hm] at this; exact this
theorem clone_none (w : World) : Calls Try.prog 50 #[.slice none 0 0] w (Gives w []) := by
  have q22 : ∀ (w : World) (a : Option Addr) (n c n' c' : Nat), (binOp .eql 22 (.slice a n c) (.slice none n' c')).run Try.prog w = .ok (.bool a.isNone) w := fun w a n c n' c' => Lib.run_eql_slice_nil w _ _ a n c n' c' Try.underlying22
  go_enter Try.func50, Try.ntmps50
  go_wp2
  go_ret
  exact ⟨_, rfl, Own.nil _ _, Below.refl _ _⟩
theorem own_none (w : World) : Own (w.alloc (.cells #[] 5)) w.heap.size (.slice (some ⟨w.heap.size, 0, none⟩) 0 0) [] :=
  World.ownsRow_lit w #[] 0 (Nat.le_refl _) (by simp [maxLen]) rfl
theorem clone_some (ad : Addr) (l : List Nat) (c : Nat) (w : World) (hb : Bytes w w.heap.size (some ad) l) (hl : l.length ≤ 70368744177664) : Calls Try.prog 50 #[.slice (some ad) l.length c] w (Gives w l) := by
  have hb1 : Below w.heap.size w (w.alloc (.cells #[] 5)) := (Below.refl _ _).alloc (Nat.le_refl _) _
  have hB := hb.below hb1
  have hO := own_none w
  have hsz := hb1.size
  clear hb
  have q22 : ∀ (w : World) (a : Option Addr) (n c n' c' : Nat), (binOp .eql 22 (.slice a n c) (.slice none n' c')).run Try.prog w = .ok (.bool a.isNone) w := fun w a n c n' c' => Lib.run_eql_slice_nil w _ _ a n c n' c' Try.underlying22
  go_enter Try.func50, Try.ntmps50
  go_wp2_with (at_builtin; refine app_bytes rfl (.tmp 5) (.tmp 6) rfl w.heap.size _ [] rfl hO (some ad) l c _ rfl hB (fun h => by cases h) (by simp; omega) hsz ?_; intro v2 w2 hown2 hbel2)
  go_ret
  exact ⟨v2, rfl, hown2, hb1.trans hbel2⟩
theorem clone_any (A : Option Addr) (l : List Nat) (c : Nat) (w : World) (hb : Bytes w w.heap.size A l) (hc : A = none → c = 0) (hl : l.length ≤ 70368744177664) : Calls Try.prog 50 #[.slice A l.length c] w (Gives w l) := by
  cases A with
  | none =>
    have hl0 : l = [] := by
      rcases Nat.eq_zero_or_pos l.length with h0 | h0
      · exact List.eq_nil_of_length_eq_zero h0
      · obtain ⟨b, off, he, _⟩ := hb.2 h0
        cases he
    subst hl0
    rw [hc rfl]
    exact clone_none w
  | some ad => exact clone_some ad l c w hb hl
theorem begin_any (A : Option Addr) (l : List Nat) (c x : Nat) (w : World) (hb : Bytes w w.heap.size A l) (hc : A = none → c = 0) (hl : l.length ≤ 70368744177664) (hx : x < 256) : Calls Try.prog 37 #[.slice A l.length c, .int .u8 (x : Int)] w (Gives w (l ++ [x])) := by
  have HC := Lib.hid (clone_any A l c w hb hc hl)
  clear hb hc
  go_enter Try.func37, Try.ntmps37
  go_wp2_with fail
  refine HC.out.mono ?_
  rintro e w1 ⟨v1, rfl, hown1, hb1⟩
  have hsz := hb1.size
  clear HC
  go_wp2_with (at_builtin; refine app_bytes rfl (.tmp 6) (.tmp 8) rfl w.heap.size _ l rfl (hown1.alloc _) _ [x] 1 _ rfl (bytes_one _ x hx _) (fun h => by cases h) (by simp; omega) (by simp; omega) ?_; intro v2 w2 hown2 hbel2)
  go_ret
  exact ⟨v2, rfl, hown2, (hb1.alloc hsz _).trans hbel2⟩
theorem isNum_neg (n : Int) (w : World) (h : ¬ 0 ≤ n) : Calls Try.prog 39 #[.int .i64 n] w (Same1 w (.bool false)) := by
  go_enter Try.func39, Try.ntmps39
  go_wp2
  go_ret
  exact ⟨rfl, rfl⟩
theorem isNum_in (n : Int) (w : World) (h : 0 ≤ n) (h2 : n ≤ 4294967295) : Calls Try.prog 39 #[.int .i64 n] w (Same1 w (.bool true)) := by
  go_enter Try.func39, Try.ntmps39
  go_wp2
  go_ret
  exact ⟨rfl, rfl⟩
theorem isNum_out (n : Int) (w : World) (h : 0 ≤ n) (h2 : ¬ n ≤ 4294967295) : Calls Try.prog 39 #[.int .i64 n] w (Same1 w (.bool false)) := by
  go_enter Try.func39, Try.ntmps39
  go_wp2
  go_ret
  exact ⟨rfl, rfl⟩
theorem isNum_any (n : Int) (w : World) : Calls Try.prog 39 #[.int .i64 n] w (Same1 w (.bool (decide (0 ≤ n ∧ n ≤ 4294967295)))) := by
  by_cases h : 0 ≤ n
  · by_cases h2 : n ≤ 4294967295
    · rw [decide_eq_true ⟨h, h2⟩]; exact isNum_in n w h h2
    · rw [decide_eq_false (fun x => h2 x.2)]; exact isNum_out n w h h2
  · rw [decide_eq_false (fun x => h x.1)]; exact isNum_neg n w h
set_option maxHeartbeats 1000000 in
theorem mayStand_any (A : Option Addr) (xs : List Int) (c B : Nat) (w : World) (hb : Ints w B A xs) : Calls Try.prog 36 #[.slice A xs.length c] w (Same1 w (.bool (decide (good xs)))) := by
  by_cases h8 : xs.length ≤ 8
  · have h8i : ¬ (8 : Int) < (xs.length : Int) := by omega
    have HF : Hid ((∀ x ∈ xs, x = 127 ∨ x = 126) → decide (good xs) = true) := Lib.hid fun h => decide_eq_true ⟨h8, h⟩
    have HF2 : Hid (∀ y ∈ xs, y ≠ 127 → y ≠ 126 → decide (good xs) = false) := Lib.hid fun y hy h1 h2 => decide_eq_false fun h => by rcases h.2 y hy with h | h; exact h1 h; exact h2 h
    go_enter Try.func36, Try.ntmps36
    go_wp2
    go_loop [10] (fun i => ∃ k : Nat, k ≤ xs.length ∧ i = .int .i64 (k : Int) ∧ Hid (∀ x ∈ xs.take k, x = 127 ∨ x = 126)) (fun i => xs.length - (intOf i).toNat)
    case atStart => exact ⟨0, Nat.zero_le _, rfl, Lib.hid (by simp)⟩
    case round =>
      obtain ⟨k, hk, rfl, HK⟩ := hrel
      by_cases hkl : k < xs.length
      · have hkli : (k : Int) < (xs.length : Int) := by omega
        obtain ⟨b, off, rfl, _, hcs⟩ := hb (by omega)
        have hck := hcs k hkl
        have HN : Hid ((xs[k] = 127 ∨ xs[k] = 126) → ∀ x ∈ xs.take (k + 1), x = 127 ∨ x = 126) := Lib.hid fun h x hx => by
          rw [List.take_succ_eq_append_getElem hkl] at hx
          rcases List.mem_append.1 hx with hx | hx
          · exact HK.out x hx
          · have : x = xs[k] := by simpa using hx
            rw [this]; exact h
        have HM := Lib.hid (HF2.out _ (List.getElem_mem hkl))
        clear hcs hb HK
        generalize xs[k] = y at *
        by_cases hy7 : y = 127
        · subst hy7
          have HN2 := Lib.hid (HN.out (Or.inl rfl))
          go_wp2
          go_round
          case rel => exact ⟨k + 1, by omega, by go_num, HN2⟩
          case measure => simp [intOf]; omega
        · by_cases hy6 : y = 126
          · subst hy6
            have HN2 := Lib.hid (HN.out (Or.inr rfl))
            go_wp2
            go_round
            case rel => exact ⟨k + 1, by omega, by go_num, HN2⟩
            case measure => simp [intOf]; omega
          · have hy7b : (y != 127) = true := by simp [hy7]
            have hy6b : (y != 126) = true := by simp [hy6]
            have HE := Lib.hid (HM.out hy7 hy6)
            clear hy7 hy6
            go_wp2
            go_ret
            rw [HE.out]
            exact ⟨rfl, rfl⟩
      · have hkli : ¬ (k : Int) < (xs.length : Int) := by omega
        have HE := Lib.hid (HF.out (fun x hx => HK.out x (by rw [List.take_of_length_le (by omega)]; exact hx)))
        clear HK hb
        go_wp2
        go_ret
        rw [HE.out]
        exact ⟨rfl, rfl⟩
  · have h8i : (8 : Int) < (xs.length : Int) := by omega
    have HE : Hid (decide (good xs) = false) := Lib.hid (decide_eq_false fun h => h8 h.1)
    clear hb h8
    go_enter Try.func36, Try.ntmps36
    go_wp2
    go_ret
    rw [HE.out]
    exact ⟨rfl, rfl⟩
def ValS (w : World) (r : Nat × Nat × Nat) (e : Ending) (w' : World) : Prop := e = .returned (.tuple #[.int .i64 (r.1 : Int), .int .i64 (r.2.1 : Int), .int .i64 (r.2.2 : Int)]) ∧ w = w'
theorem oval_0 (A : Option Addr) (c : Nat) (w : World) : Calls Try.prog 15 #[.slice A 0 c] w (ValS w (0, 0, 1)) := by
  go_enter Try.func15, Try.ntmps15
  go_wp2
  go_ret3
  exact ⟨rfl, rfl⟩
section
variable (b off len c x : Nat) (w : World) (hl : 1 ≤ len) (hc : w.cell? ⟨b, off, none⟩ = some (.int .u8 (x : Int)))
include hl hc
theorem oval_yes (hx : x = 127 ∨ x = 126) : Calls Try.prog 15 #[.slice (some ⟨b, off, none⟩) len c] w (ValS w (x, 1, 0)) := by
  have hl0 : ((len : Int) == 0) = false := by simp; omega
  rcases hx with rfl | rfl
  · go_enter Try.func15, Try.ntmps15
    go_wp2
    go_ret3
    exact ⟨rfl, rfl⟩
  · go_enter Try.func15, Try.ntmps15
    go_wp2
    go_ret3
    exact ⟨rfl, rfl⟩
theorem oval_wide (hx : x = 125 ∨ x = 124 ∨ x = 123 ∨ x = 112 ∨ x = 111) : Calls Try.prog 15 #[.slice (some ⟨b, off, none⟩) len c] w (ValS w (0, 0, 3)) := by
  have hl0 : ((len : Int) == 0) = false := by simp; omega
  rcases hx with rfl | rfl | rfl | rfl | rfl
  all_goals
    go_enter Try.func15, Try.ntmps15
    go_wp2
    go_ret3
    exact ⟨rfl, rfl⟩
theorem oval_none (h : x ≠ 127 ∧ x ≠ 126 ∧ x ≠ 125 ∧ x ≠ 124 ∧ x ≠ 123 ∧ x ≠ 112 ∧ x ≠ 111) : Calls Try.prog 15 #[.slice (some ⟨b, off, none⟩) len c] w (ValS w (0, 0, 2)) := by
  have hl0 : ((len : Int) == 0) = false := by simp; omega
  have t127 : ((x : Int) == 127) = false := by simp; omega
  have t126 : ((x : Int) == 126) = false := by simp; omega
  have t125 : ((x : Int) == 125) = false := by simp; omega
  have t124 : ((x : Int) == 124) = false := by simp; omega
  have t123 : ((x : Int) == 123) = false := by simp; omega
  have t112 : ((x : Int) == 112) = false := by simp; omega
  have t111 : ((x : Int) == 111) = false := by simp; omega
  clear h
  go_enter Try.func15, Try.ntmps15
  go_wp2
  go_ret3
  exact ⟨rfl, rfl⟩
end
theorem oval_same (A : Option Addr) (l : List Nat) (c B : Nat) (w : World) (hb : Bytes w B A l) : Calls Try.prog 15 #[.slice A l.length c] w (ValS w (valRes l)) := by
  unfold valRes
  by_cases h0 : l.length < 1
  · have hl : l.length = 0 := by omega
    rw [if_pos h0, hl]
    exact oval_0 A c w
  rw [if_neg h0]
  obtain ⟨b, off, rfl, hbl, hcs⟩ := hb.2 (by omega)
  have hc := hcs 0 (by omega)
  have hd : l.getD 0 0 = l[0] := by simp [List.getD, List.getElem?_eq_getElem (show 0 < l.length by omega)]
  rw [hd]
  rw [Nat.add_zero] at hc
  unfold valOf
  by_cases h1 : l[0] = 127 ∨ l[0] = 126
  · rw [if_pos h1, if_pos rfl]
    exact oval_yes b off l.length c l[0] w (by omega) hc h1
  · by_cases h2 : l[0] = 125 ∨ l[0] = 124 ∨ l[0] = 123 ∨ l[0] = 112 ∨ l[0] = 111
    · rw [if_neg h1, if_pos h2, if_neg (by decide)]
      exact oval_wide b off l.length c l[0] w (by omega) hc h2
    · rw [if_neg h1, if_neg h2, if_neg (by decide)]
      exact oval_none b off l.length c l[0] w (by omega) hc (by omega)
theorem oval_any (A : Option Addr) (l : List Nat) (c B : Nat) (w : World) (hb : Bytes w B A l) : Calls Try.prog 15 #[.slice A l.length c] w (Val3 w (valRes l)) :=
  (oval_same A l c B w hb).mono fun _ _ ⟨h, e⟩ => ⟨h, by subst e; exact Below.refl _ _⟩
end Go.Proofs.Ythhdbjpimjkekaa.Typ
