/-
  slices.Index, Contains at bytes, typ.begins, typ.Val: what each comes to. Conditions: slices lead to bytes in memory; lengths as each says.
-/
import Derived.Test.YtdipgokbfjbgfaaTypPlainOwn
namespace Go.Proofs.Ytdipgokbfjbgfaa.Typ
open Go.RowKit Leb

set_option maxHeartbeats 1000000 in
theorem index_any (A : Option Addr) (l : List Nat) (c B x : Nat) (w : World) (hb : Bytes w B A l) (h47 : l.length ≤ 1000) :
    Calls Try.prog 101 #[.slice A l.length c, .int .u8 (x : Int)] w fun e w' => ∃ k : Int, e = .returned (.int .i64 k) ∧ w = w' ∧ (0 ≤ k ↔ x ∈ l) := by
  go_enter Try.func101, Try.ntmps101
  go_wp2
  go_loop [8] (fun i => ∃ k : Nat, k ≤ l.length ∧ i = .int .i64 (k : Int) ∧ Hid (x ∉ l.take k)) (fun i => l.length - (intOf i).toNat)
  case atStart => exact ⟨0, Nat.zero_le _, rfl, Lib.hid (by simp)⟩
  case round =>
    obtain ⟨k, hk, rfl, HK⟩ := hrel
    by_cases hlt : k < l.length
    · obtain ⟨b, off, rfl, _, hcs⟩ := hb.2 (by omega)
      have hc := hcs k hlt
      have hlti : (k : Int) < (l.length : Int) := by omega
      have HN : Hid (x ≠ l[k] → x ∉ l.take (k + 1)) := Lib.hid fun h hx => by
        rw [List.take_succ_eq_append_getElem hlt] at hx
        rcases List.mem_append.1 hx with hx | hx
        · exact HK.out hx
        · exact h (by simpa using hx)
      have HM := Lib.hid (List.getElem_mem hlt)
      clear hcs hb HK
      generalize l[k] = y at *
      by_cases hxy : x = y
      · subst hxy
        have hbb : (((x : Nat) : Int) == ((x : Nat) : Int)) = true := by simp
        go_wp2
        go_ret
        exact ⟨_, rfl, rfl, iff_of_true (by omega) HM.out⟩
      · have hbb : ((x : Int) == (y : Int)) = false := by simp; omega
        have HN2 := Lib.hid (HN.out hxy)
        clear hxy HN
        go_wp2
        go_round
        case rel => exact ⟨k + 1, by omega, by go_num, HN2⟩
        case measure => simp [intOf]; omega
    · have hlti : ¬ (k : Int) < (l.length : Int) := by omega
      have HE : Hid (x ∉ l) := Lib.hid (by have := HK.out; rwa [List.take_of_length_le (by omega)] at this)
      clear HK hb
      go_wp2
      go_ret
      exact ⟨_, rfl, rfl, iff_of_false (by decide) HE.out⟩
theorem contains_any (A : Option Addr) (l : List Nat) (c B x : Nat) (w : World) (hb : Bytes w B A l) (h47 : l.length ≤ 1000) :
    Calls Try.prog 100 #[.slice A l.length c, .int .u8 (x : Int)] w (Same1 w (.bool (decide (x ∈ l)))) := by
  have HI := Lib.hid (index_any A l c B x w hb h47)
  clear hb h47
  go_enter Try.func100, Try.ntmps100
  go_wp2_with fail
  refine HI.out.mono ?_
  rintro e w1 ⟨k, rfl, rfl, hk⟩
  have HK := Lib.hid hk
  clear hk HI
  go_wp2
  go_ret
  exact ⟨ret_bool (decide_eq_decide.2 HK.out), rfl⟩
theorem begins_0 (A : Option Addr) (c : Nat) (v : Value) (w : World) : Calls Try.prog 92 #[.slice A 0 c, v] w (Same1 w (.int .i64 1)) := by
  go_enter Try.func92, Try.ntmps92
  go_wp2
  go_ret
  exact ⟨rfl, rfl⟩
theorem begins_1 (b off len c x : Nat) (v : Value) (w : World) (hl : 1 ≤ len) (hc : w.cell? ⟨b, off, none⟩ = some (.int .u8 (x : Int))) (bb : Bool) (HC : Hid (Calls Try.prog 100 #[v, .int .u8 (x : Int)] w (Same1 w (.bool bb)))) :
    Calls Try.prog 92 #[.slice (some ⟨b, off, none⟩) len c, v] w (Same1 w (.int .i64 (if bb then 0 else 2))) := by
  have hl0 : ((len : Int) == 0) = false := by simp; omega
  cases bb with
  | true =>
    go_enter Try.func92, Try.ntmps92
    go_wp2_with fail
    refine HC.out.mono ?_
    rintro e w1 ⟨rfl, rfl⟩
    go_wp2
    go_ret
    exact ⟨rfl, rfl⟩
  | false =>
    go_enter Try.func92, Try.ntmps92
    go_wp2_with fail
    refine HC.out.mono ?_
    rintro e w1 ⟨rfl, rfl⟩
    go_wp2
    go_ret
    exact ⟨rfl, rfl⟩
theorem begins_any (A A' : Option Addr) (l fs : List Nat) (c c' B B' : Nat) (w : World) (hb : Bytes w B A l) (hb' : Bytes w B' A' fs) (h47 : fs.length ≤ 1000) :
    Calls Try.prog 92 #[.slice A l.length c, .slice A' fs.length c'] w (Same1 w (.int .i64 (bgRes l fs : Nat))) := by
  unfold bgRes
  by_cases h0 : l.length < 1
  · have hl : l.length = 0 := by omega
    rw [if_pos h0, hl]
    exact begins_0 A c _ w
  rw [if_neg h0]
  obtain ⟨b, off, rfl, hbl, hcs⟩ := hb.2 (by omega)
  have hc := hcs 0 (by omega)
  have hd : l.getD 0 0 = l[0] := by simp [List.getD, List.getElem?_eq_getElem (show 0 < l.length by omega)]
  rw [hd]
  rw [Nat.add_zero] at hc
  have := begins_1 b off l.length c l[0] (.slice A' fs.length c') w (by omega) hc _ (Lib.hid (contains_any A' fs c' B' l[0] w hb' h47))
  by_cases hm : l[0] ∈ fs
  · rw [if_pos hm]; rw [decide_eq_true hm] at this; exact this
  · rw [if_neg hm]; rw [decide_eq_false hm] at this; exact this
theorem oval_0 (A : Option Addr) (c : Nat) (w : World) : Calls Try.prog 93 #[.slice A 0 c] w (ValS w (0, 0, 1)) := by
  go_enter Try.func93, Try.ntmps93
  go_wp2
  go_ret3
  exact ⟨rfl, rfl⟩
section
variable (b off len c x : Nat) (w : World) (hl : 1 ≤ len) (hc : w.cell? ⟨b, off, none⟩ = some (.int .u8 (x : Int)))
include hl hc
theorem oval_yes (hx : x = 127 ∨ x = 126) : Calls Try.prog 93 #[.slice (some ⟨b, off, none⟩) len c] w (ValS w (x, 1, 0)) := by
  have hl0 : ((len : Int) == 0) = false := by simp; omega
  rcases hx with rfl | rfl
  · go_enter Try.func93, Try.ntmps93
    go_wp2
    go_ret3
    exact ⟨rfl, rfl⟩
  · go_enter Try.func93, Try.ntmps93
    go_wp2
    go_ret3
    exact ⟨rfl, rfl⟩
theorem oval_wide (hx : x = 125 ∨ x = 124 ∨ x = 123 ∨ x = 112 ∨ x = 111) : Calls Try.prog 93 #[.slice (some ⟨b, off, none⟩) len c] w (ValS w (0, 0, 3)) := by
  have hl0 : ((len : Int) == 0) = false := by simp; omega
  rcases hx with rfl | rfl | rfl | rfl | rfl
  all_goals
    go_enter Try.func93, Try.ntmps93
    go_wp2
    go_ret3
    exact ⟨rfl, rfl⟩
theorem oval_none (h : x ≠ 127 ∧ x ≠ 126 ∧ x ≠ 125 ∧ x ≠ 124 ∧ x ≠ 123 ∧ x ≠ 112 ∧ x ≠ 111) : Calls Try.prog 93 #[.slice (some ⟨b, off, none⟩) len c] w (ValS w (0, 0, 2)) := by
  have hl0 : ((len : Int) == 0) = false := by simp; omega
  have t127 : ((x : Int) == 127) = false := by simp; omega
  have t126 : ((x : Int) == 126) = false := by simp; omega
  have t125 : ((x : Int) == 125) = false := by simp; omega
  have t124 : ((x : Int) == 124) = false := by simp; omega
  have t123 : ((x : Int) == 123) = false := by simp; omega
  have t112 : ((x : Int) == 112) = false := by simp; omega
  have t111 : ((x : Int) == 111) = false := by simp; omega
  clear h
  go_enter Try.func93, Try.ntmps93
  go_wp2
  go_ret3
  exact ⟨rfl, rfl⟩
end
theorem oval_same (A : Option Addr) (l : List Nat) (c B : Nat) (w : World) (hb : Bytes w B A l) : Calls Try.prog 93 #[.slice A l.length c] w (ValS w (valRes l)) := by
  unfold valRes
  by_cases h0 : l.length < 1
  · have hl : l.length = 0 := by omega
    rw [if_pos h0, hl]
    exact oval_0 A c w
  rw [if_neg h0]
  obtain ⟨b, off, rfl, hbl, hcs⟩ := hb.2 (by omega)
  have hc := hcs 0 (by omega)
  have hd : l.getD 0 0 = l[0] := by simp [List.getD, List.getElem?_eq_getElem (show 0 < l.length by omega)]
  rw [hd]
  rw [Nat.add_zero] at hc
  unfold valOf
  by_cases h1 : l[0] = 127 ∨ l[0] = 126
  · rw [if_pos h1, if_pos rfl]
    exact oval_yes b off l.length c l[0] w (by omega) hc h1
  · by_cases h2 : l[0] = 125 ∨ l[0] = 124 ∨ l[0] = 123 ∨ l[0] = 112 ∨ l[0] = 111
    · rw [if_neg h1, if_pos h2, if_neg (by decide)]
      exact oval_wide b off l.length c l[0] w (by omega) hc h2
    · rw [if_neg h1, if_neg h2, if_neg (by decide)]
      exact oval_none b off l.length c l[0] w (by omega) hc (by omega)
theorem oval_any (A : Option Addr) (l : List Nat) (c B : Nat) (w : World) (hb : Bytes w B A l) : Calls Try.prog 93 #[.slice A l.length c] w (Val3 w (valRes l)) :=
  (oval_same A l c B w hb).mono fun _ _ ⟨h, e⟩ => ⟨h, by subst e; exact Below.refl _ _⟩
theorem bg_lit (A : Option Addr) (l fs : List Nat) (c n : Nat) (w : World) (t : TypeId) (vs : Array Value) (hb : Bytes w w.heap.size A l) (hf : ∀ x ∈ fs, x < 256) (hv : vs = (fs.map bv).toArray) (hn : fs.length = n) (h47 : n ≤ 1000) (W : World) (g : Nat) (hW : Below w.heap.size w W) (hg : W.heap.size = g) :
    Calls Try.prog 92 #[.slice A l.length c, .slice (some ⟨g, 0, none⟩) n n] (W.alloc (.cells vs t)) (Same1 (W.alloc (.cells vs t)) (.int .i64 (bgRes l fs : Nat))) := by
  subst hg hn
  exact begins_any A _ l fs c fs.length _ _ _ ((hb.below hW).below (((Below.refl _ _).alloc (Nat.le_refl _) _).mono hW.size)) (bytes_lit W fs hf t vs hv) h47
end Go.Proofs.Ytdipgokbfjbgfaa.Typ
