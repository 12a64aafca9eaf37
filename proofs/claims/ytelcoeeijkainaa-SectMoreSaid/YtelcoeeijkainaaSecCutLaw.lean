/-
  trammellaw07.SectCut returns true. Condition: the slice leads to bytes. (Written by wip/tools/gencut.py.)
-/
import Derived.Test.YtelcoeeijkainaaSecSplitsLaw
import Derived.Deep.RegionHeld3
import Derived.Deep.RegionHeldLaw
namespace Go.Proofs.Ytelcoeeijkainaa.Sec
open Go.RowKit Leb

theorem Secs.takeN {w : World} {B : Nat} {A : Option Addr} {c : Nat} {l : List Sec} (h : Sli w B A c l) (k : Nat) : Sli w B A c (l.take k) := ⟨h.secs.take k, by have := h.room; simp; omega, h.nil⟩
section
variable (A : Option Addr) (len c m : Nat) (at' : Int) (w : World) (hm : min (len : Int) 20000 = (m : Int)) (hmc : m ≤ c) (n k : Nat) (ss : List Sec)
  (HA : Hid (Calls Try.prog 7 #[] w fun e w' => e = .returned (.bool true) ∧ Below w.heap.size w w'))
  (HO : Hid (∀ W, Below w.heap.size w W → Calls Try.prog 8 #[.slice A m c] W (SplitIs W (ss, k) n)))
include hm hmc HA HO
set_option maxHeartbeats 1000000 in
set_option maxRecDepth 100000 in
/-- It is not asked: an error, or a place that is none. -/
theorem cut_out (h : k ≠ 0 ∨ at' < 0 ∨ (m : Int) < at') :
    Calls Try.prog 5 #[.slice A len c, .int .i64 at'] w fun e w' => e = .returned (.bool true) ∧ Below w.heap.size w w' := by
  go_enter Try.func5, Try.ntmps5
  go_upto_region 3 with (go_at_call 7; refine HA.out.mono ?_; rintro e w1 ⟨rfl, hb1⟩)
  go_cut [0] (fun s0 wx => s0 = .slice A m c ∧ wx = w1)
  case first =>
    clear h
    by_cases hs : (len : Int) ≤ 20000
    · obtain rfl : len = m := by omega
      go_wp2
      go_meet
      exact ⟨rfl, rfl⟩
    · obtain rfl : m = 20000 := by omega
      go_wp2
      go_meet
      exact ⟨rfl, rfl⟩
  case rest =>
    obtain ⟨rfl, rfl⟩ := hcut
    clear hm HA
    have H := Lib.hid h
    clear h
    go_wp2_with fail
    refine (HO.out _ hb1).mono ?_
    rintro e w2 ⟨A2, c2, rfl, hs2, _, hb2⟩
    have HB := Lib.hid (hb1.trans (hb2.mono hb1.size))
    clear hs2 hb1 hb2 HO
    by_cases hk : k = 0
    · subst hk
      have h := H.out.resolve_left (by simp)
      clear H
      by_cases hneg : at' < 0
      · clear h
        go_wp2
        go_ret
        exact ⟨rfl, HB.out⟩
      · have hbig := h.resolve_left hneg
        clear h
        go_wp2
        go_ret
        exact ⟨rfl, HB.out⟩
    · have hne : ((k : Int) != 0) = true := by simp; omega
      clear H
      go_wp2
      go_ret
      exact ⟨rfl, HB.out⟩
set_option maxHeartbeats 4000000 in
set_option maxRecDepth 100000 in
theorem cut_in (hk : k = 0) (q : Nat) (hq : at' = (q : Int)) (hqm : (q : Int) ≤ (m : Int)) (r k2 : Nat) (rr : List Sec) (hrn : (r : Int) ≤ (n : Int)) (hn : ss.length = n) (hk2 : k2 = 0 ∨ k2 = 1 ∧ (q : Int) < (m : Int))
    (HSL : ∀ W, (Instr.slice 22 (.slice A m c) none (some (.int .i64 (q : Int))) none).run Try.prog W = .ok (.slice A q c) W)
    (HO2 : Hid (∀ W, Below w.heap.size w W → Calls Try.prog 8 #[.slice A q c] W (SplitIs W (rr, k2) r)))
    (HT1 : Hid (∀ W A1 c1, Sli W W.heap.size A1 c1 rr → Calls Try.prog 11 #[.slice A1 r c1] W (ToldIs W rr r)))
    (HT2 : Hid (∀ W A1 c1, Sli W W.heap.size A1 c1 (ss.take r) → Calls Try.prog 11 #[.slice A1 r c1] W (ToldIs W rr r)))
    (HSM : Hid (∀ W A1 c1 A2 c2, Sli W W.heap.size A1 c1 rr → Sli W W.heap.size A2 c2 rr → Calls Try.prog 10 #[.slice A1 r c1, .slice A2 r c2] W (QuietB W true))) :
    Calls Try.prog 5 #[.slice A len c, .int .i64 at'] w fun e w' => e = .returned (.bool true) ∧ Below w.heap.size w w' := by
  subst hk hq
  have HK2 := Lib.hid hk2
  have hq0 : ¬ (q : Int) < 0 := by omega
  have hqm2 : ¬ (m : Int) < (q : Int) := by omega
  have hgt : ¬ (n : Int) < (r : Int) := by omega
  have HSN := Lib.hid hn
  clear hk2 hn
  go_enter Try.func5, Try.ntmps5
  go_upto_region 3 with (go_at_call 7; refine HA.out.mono ?_; rintro e w1 ⟨rfl, hb1⟩)
  go_cut [0] (fun s0 wx => s0 = .slice A m c ∧ wx = w1)
  case first =>
    by_cases hs : (len : Int) ≤ 20000
    · obtain rfl : len = m := by omega
      go_wp2
      go_meet
      exact ⟨rfl, rfl⟩
    · obtain rfl : m = 20000 := by omega
      go_wp2
      go_meet
      exact ⟨rfl, rfl⟩
  case rest =>
    obtain ⟨rfl, rfl⟩ := hcut
    clear hm HA
    go_wp2_with fail
    refine (HO.out _ hb1).mono ?_
    rintro e w2 ⟨A2, c2, rfl, hs2, _, hb2⟩
    have hb3 := hb1.trans (hb2.mono hb1.size)
    have HS2 := Lib.hid hs2
    clear hs2 hb1 hb2 HO
    go_wp2_with fail
    refine (HO2.out _ hb3).mono ?_
    rintro e w3 ⟨A3, c3, rfl, hs3, _, hb4⟩
    have HB5 := Lib.hid (hb3.trans (hb4.mono hb3.size))
    have HS3 := Lib.hid (And.intro ((HS2.out.below hb4).more hb4.size) hs3)
    have HSH := secs_hi tyO A2 n c2 r (by have h : ss.length ≤ c2 := HS2.out.room; rw [HSN.out] at h; exact h) (by omega)
    clear hs3 hb3 hb4 HO2 HS2 HSL hq0
    have hS : (fun _ : World => True) w3.drew := trivial
    go_wp2_with fail
    refine wp_region_held_drew (S := fun _ => True) (by kernel_rfl) hS (fun hS => ?_)
    refine wpAnyH_take (i := 0) (oi := { dst := some 40, op := .move (.tmp 7), type := 24, pos := "law.go:96", after := #[], guard := none }) (v := ?_) rfl (by kernel_rfl) (by kernel_rfl) (by kernel_rfl) (fun _ _ _ h => h) (Or.inl ⟨by rfl, ?_⟩) hS ?_
    rotate_left
    · (intro w' _; go_simp) <;> with_reducible rfl
    try simp only [Act.put, List.setIfInBounds_toArray, List.set_cons_zero, List.set_cons_succ]
    refine wpAnyH_take (i := 1) (oi := { dst := some 41, op := .call { callee := .builtin .len, args := #[.tmp 40], argTypes := #[24] }, type := 3, pos := "law.go:96", after := #[{ on := 0, ground := .data }], guard := none }) (v := ?_) rfl (by kernel_rfl) (by kernel_rfl) (by kernel_rfl) (fun _ _ _ h => h) (Or.inl ⟨by rfl, ?_⟩) hS ?_
    rotate_left
    · (intro w' _; go_simp) <;> with_reducible rfl
    try simp only [Act.put, List.setIfInBounds_toArray, List.set_cons_zero, List.set_cons_succ]
    refine wpAnyH_take (i := 2) (oi := { dst := some 42, op := .move (.tmp 5), type := 24, pos := "law.go:96", after := #[], guard := none }) (v := ?_) rfl (by kernel_rfl) (by kernel_rfl) (by kernel_rfl) (fun _ _ _ h => h) (Or.inl ⟨by rfl, ?_⟩) hS ?_
    rotate_left
    · (intro w' _; go_simp) <;> with_reducible rfl
    try simp only [Act.put, List.setIfInBounds_toArray, List.set_cons_zero, List.set_cons_succ]
    refine wpAnyH_take (i := 3) (oi := { dst := some 43, op := .call { callee := .builtin .len, args := #[.tmp 42], argTypes := #[24] }, type := 3, pos := "law.go:96", after := #[{ on := 2, ground := .data }], guard := none }) (v := ?_) rfl (by kernel_rfl) (by kernel_rfl) (by kernel_rfl) (fun _ _ _ h => h) (Or.inl ⟨by rfl, ?_⟩) hS ?_
    rotate_left
    · (intro w' _; go_simp) <;> with_reducible rfl
    try simp only [Act.put, List.setIfInBounds_toArray, List.set_cons_zero, List.set_cons_succ]
    refine wpAnyH_take (i := 4) (oi := { dst := some 44, op := .binOp .gtr 3 (.tmp 41) (.tmp 43) 3, type := 4, pos := "law.go:96", after := #[{ on := 1, ground := .data }, { on := 3, ground := .data }], guard := none }) (v := .bool false) rfl (by kernel_rfl) (by kernel_rfl) (by kernel_rfl) (fun _ _ _ h => h) (Or.inl ⟨by rfl, ?_⟩) hS ?_
    · (intro w' _; go_simp; (try simp [hgt]); omega)
    try simp only [Act.put, List.setIfInBounds_toArray, List.set_cons_zero, List.set_cons_succ]
    refine wpAnyH_take (i := 5) (oi := { dst := some 45, op := .move (.tmp 44), type := 4, pos := "law.go:96", after := #[{ on := 4, ground := .data }], guard := none }) (v := ?_) rfl (by kernel_rfl) (by kernel_rfl) (by kernel_rfl) (fun _ _ _ h => h) (Or.inl ⟨by rfl, ?_⟩) hS ?_
    rotate_left
    · (intro w' _; go_simp) <;> with_reducible rfl
    try simp only [Act.put, List.setIfInBounds_toArray, List.set_cons_zero, List.set_cons_succ]
    refine wpAnyH_take (i := 6) (oi := { dst := some 46, op := .move (.tmp 7), type := 24, pos := "law.go:96", after := #[{ on := 5, ground := .guard }], guard := some (5, false) }) (v := ?_) rfl (by kernel_rfl) (by kernel_rfl) (by kernel_rfl) (fun _ _ _ h => h) (Or.inl ⟨by rfl, ?_⟩) hS ?_
    rotate_left
    · (intro w' _; go_simp) <;> with_reducible rfl
    try simp only [Act.put, List.setIfInBounds_toArray, List.set_cons_zero, List.set_cons_succ]
    refine wpAnyH_take (i := 8) (oi := { dst := some 48, op := .move (.tmp 5), type := 24, pos := "law.go:96", after := #[{ on := 5, ground := .guard }], guard := some (5, false) }) (v := ?_) rfl (by kernel_rfl) (by kernel_rfl) (by kernel_rfl) (fun _ _ _ h => h) (Or.inl ⟨by rfl, ?_⟩) hS ?_
    rotate_left
    · (intro w' _; go_simp) <;> with_reducible rfl
    try simp only [Act.put, List.setIfInBounds_toArray, List.set_cons_zero, List.set_cons_succ]
    refine wpAnyH_take (i := 9) (oi := { dst := some 49, op := .move (.tmp 7), type := 24, pos := "law.go:96", after := #[{ on := 5, ground := .guard }], guard := some (5, false) }) (v := ?_) rfl (by kernel_rfl) (by kernel_rfl) (by kernel_rfl) (fun _ _ _ h => h) (Or.inl ⟨by rfl, ?_⟩) hS ?_
    rotate_left
    · (intro w' _; go_simp) <;> with_reducible rfl
    try simp only [Act.put, List.setIfInBounds_toArray, List.set_cons_zero, List.set_cons_succ]
    refine wpAnyH_take (i := 10) (oi := { dst := some 50, op := .call { callee := .builtin .len, args := #[.tmp 49], argTypes := #[24] }, type := 3, pos := "law.go:96", after := #[{ on := 9, ground := .data }, { on := 5, ground := .guard }], guard := some (5, false) }) (v := ?_) rfl (by kernel_rfl) (by kernel_rfl) (by kernel_rfl) (fun _ _ _ h => h) (Or.inl ⟨by rfl, ?_⟩) hS ?_
    rotate_left
    · (intro w' _; go_simp) <;> with_reducible rfl
    try simp only [Act.put, List.setIfInBounds_toArray, List.set_cons_zero, List.set_cons_succ]
    refine wpAnyH_take (i := 11) (oi := { dst := some 51, op := .slice 24 (.tmp 48) none (some (.tmp 50)) none, type := 24, pos := "law.go:96", after := #[{ on := 8, ground := .data }, { on := 10, ground := .data }, { on := 5, ground := .guard }], guard := some (5, false) }) (v := ?_) rfl (by kernel_rfl) (by kernel_rfl) (by kernel_rfl) (fun _ _ _ h => h) (Or.inl ⟨by rfl, ?_⟩) hS ?_
    rotate_left
    · (intro w' _; go_simp) <;> with_reducible rfl
    try simp only [Act.put, List.setIfInBounds_toArray, List.set_cons_zero, List.set_cons_succ]
    refine wpAnyH_ready (rs := [7]) (by kernel_rfl) (by simp) ?_
    refine AllReadyH.cons (o := { dst := some 47, op := .call { callee := .value (.func 11), args := #[.tmp 46], argTypes := #[24] }, type := 28, pos := "law.go:96", after := #[{ on := 6, ground := .data }, { on := 5, ground := .chain }, { on := 5, ground := .guard }], guard := some (5, false) }) rfl (fun K hK => ?_) AllReadyH.nil
    go_simp
    have hd0 : Below w3.heap.size w3 w3.drew := (Below.refl _ _).drew
    refine (HT1.out _ _ _ ((HS3.out.2.below hd0).more hd0.size)).mono ?_
    rintro e w4 ⟨A4, c4, rfl, hs4, hb6⟩
    have hb6' := hd0.trans (hb6.mono hd0.size)
    have HS4 := Lib.hid (And.intro ((HS3.out.1.below hb6').more hb6'.size) hs4)
    have HB7 := Lib.hid (HB5.out.trans (hb6'.mono HB5.out.size))
    clear hd0 hs4 hb6 hb6' HT1 HS3 HB5 HSH
    go_wp2_with fail
    refine hK.out _ _ trivial (fun _ => ?_)
    clear hK K
    try simp only [Act.put, List.setIfInBounds_toArray, List.set_cons_zero, List.set_cons_succ]
    refine wpAnyH_ready (rs := [12]) (by kernel_rfl) (by simp) ?_
    refine AllReadyH.cons (o := { dst := some 52, op := .call { callee := .value (.func 11), args := #[.tmp 51], argTypes := #[24] }, type := 28, pos := "law.go:96", after := #[{ on := 11, ground := .data }, { on := 7, ground := .chain }, { on := 5, ground := .guard }], guard := some (5, false) }) rfl (fun K hK => ?_) AllReadyH.nil
    go_simp
    refine (HT2.out _ _ _ (Secs.takeN HS4.out.1 r)).mono ?_
    rintro e w5 ⟨A5, c5, rfl, hs5, hb8⟩
    have HS5 := Lib.hid (And.intro ((HS4.out.2.below hb8).more hb8.size) hs5)
    have HB9 := Lib.hid (HB7.out.trans (hb8.mono HB7.out.size))
    clear hs5 hb8 HT2 HS4 HB7
    go_wp2_with fail
    refine hK.out _ _ trivial (fun _ => ?_)
    clear hK K
    try simp only [Act.put, List.setIfInBounds_toArray, List.set_cons_zero, List.set_cons_succ]
    refine wpAnyH_ready (rs := [13]) (by kernel_rfl) (by simp) ?_
    refine AllReadyH.cons (o := { dst := some 53, op := .call { callee := .value (.func 10), args := #[.tmp 47, .tmp 52], argTypes := #[28, 28] }, type := 4, pos := "law.go:96", after := #[{ on := 7, ground := .data }, { on := 12, ground := .data }, { on := 12, ground := .chain }, { on := 5, ground := .guard }], guard := some (5, false) }) rfl (fun K hK => ?_) AllReadyH.nil
    go_simp
    refine (HSM.out _ _ _ _ _ HS5.out.1 HS5.out.2).mono ?_
    rintro e w6 ⟨rfl, m6, rfl⟩
    have HB10 := Lib.hid (below_drewN HB9.out m6)
    clear HSM HS5 HB9
    go_wp2_with fail
    refine hK.out _ _ trivial (fun _ => ?_)
    clear hK K
    try simp only [Act.put, List.setIfInBounds_toArray, List.set_cons_zero, List.set_cons_succ]
    refine wpAnyH_take (i := 14) (oi := { dst := some 54, op := .unOp .not 4 (.tmp 53), type := 4, pos := "law.go:96", after := #[{ on := 13, ground := .data }, { on := 5, ground := .guard }], guard := some (5, false) }) (v := ?_) rfl (by kernel_rfl) (by kernel_rfl) (by kernel_rfl) (fun _ _ _ h => h) (Or.inl ⟨by rfl, ?_⟩) hS ?_
    rotate_left
    · (intro w' _; go_simp) <;> with_reducible rfl
    try simp only [Act.put, List.setIfInBounds_toArray, List.set_cons_zero, List.set_cons_succ]
    refine wpAnyH_take (i := 15) (oi := { dst := some 55, op := .pick (.tmp 45) (.const (.bool true)) (.tmp 54), type := 4, pos := "law.go:96", after := #[{ on := 5, ground := .data }, { on := 14, ground := .data }], guard := none }) (v := ?_) rfl (by kernel_rfl) (by kernel_rfl) (by kernel_rfl) (fun _ _ _ h => h) (Or.inl ⟨by rfl, ?_⟩) hS ?_
    rotate_left
    · (intro w' _; go_simp) <;> with_reducible rfl
    try simp only [Act.put, List.setIfInBounds_toArray, List.set_cons_zero, List.set_cons_succ]
    refine wpAnyH_done (by kernel_rfl) ?_ _
    rcases HK2.out with rfl | ⟨rfl, hlt⟩
    · go_wp2
      go_ret
      exact ⟨rfl, HB10.out⟩
    · go_wp2
      go_ret
      exact ⟨rfl, HB10.out⟩
end
theorem cut_law (A : Option Addr) (l0 : List Nat) (c : Nat) (at' : Int) (w : World) (hs0 : Slc w w.heap.size A c l0) :
    Calls Try.prog 5 #[.slice A l0.length c, .int .i64 at'] w fun e w' => e = .returned (.bool true) ∧ Below w.heap.size w w' := by
  obtain ⟨m, hm⟩ : ∃ m, m = min l0.length 20000 := ⟨_, rfl⟩
  have hs := hs0.cut m
  obtain ⟨l, hl⟩ : ∃ l, l = l0.take m := ⟨_, rfl⟩
  have hlm : l.length = m := by rw [hl]; simp; omega
  rw [← hl] at hs
  have hmc : m ≤ c := by have := hs.room; omega
  have hO := fun W (hW : Below w.heap.size w W) => osplit_any A l c W ((hs.below hW).more hW.size)
  obtain ⟨hL1, hL2⟩ := splitRes_len l
  rw [hlm] at hO
  by_cases hin : (splitRes l).2 = 0 ∧ 0 ≤ at' ∧ at' ≤ (m : Int)
  · obtain ⟨h0, h1, h2⟩ := hin
    obtain ⟨q, rfl⟩ : ∃ q : Nat, at' = (q : Int) := ⟨at'.toNat, by omega⟩
    have hqm : q ≤ l.length := by omega
    obtain ⟨r, k2, hr, hpre, hk2⟩ := split_cut l q hqm (splitRes l).1 (by rw [← h0])
    obtain ⟨HSL, hB⟩ := slice_hi A l c q w.heap.size w hs hqm
    rw [hlm] at HSL
    have hO2 := fun W (hW : Below w.heap.size w W) => osplit_any A (l.take q) c W (((hB W (hs.below hW))).more hW.size)
    have hq : (l.take q).length = q := by simp; omega
    rw [hr, hq] at hO2
    have hrl := hpre.length_le
    have htk : (splitRes l).1.take r.length = r := (List.prefix_iff_eq_take.1 hpre).symm
    have hbl : ∀ s ∈ r, s.b.length ≤ 65536 := fun s h => hL2 s (hpre.subset h)
    have hr16 : r.length ≤ 65536 := Nat.le_trans hrl hL1
    exact cut_in A l0.length c m (q : Int) w (by omega) hmc (splitRes l).1.length (splitRes l).2 (splitRes l).1 (Lib.hid (awake_any w)) (Lib.hid hO) h0 q rfl (by omega) r.length k2 r (by omega) rfl (hk2.imp id fun h => ⟨h.1, by omega⟩) HSL (Lib.hid hO2)
      (Lib.hid fun W A1 c1 h => told_any A1 r c1 W h (by omega))
      (Lib.hid fun W A1 c1 h => told_any A1 r c1 W (by rwa [htk] at h) (by omega))
      (Lib.hid fun W A1 c1 A2 c2 h1 h2 => by
        have := rsec_same A1 A2 r r c1 c2 W h1.secs h2.secs (by omega) (fun s hs => by have := hbl s hs; omega) (fun s hs => by have := hbl s hs; omega)
        rwa [decide_eq_true rfl] at this)
  · exact cut_out A l0.length c m at' w (by omega) hmc (splitRes l).1.length (splitRes l).2 (splitRes l).1 (Lib.hid (awake_any w)) (Lib.hid hO) (by
      by_cases h0 : (splitRes l).2 = 0
      · by_cases h1 : at' < 0
        · exact .inr (.inl h1)
        · exact .inr (.inr (by
            rcases Int.lt_or_le (m : Int) at' with h | h
            · exact h
            · exact absurd ⟨h0, by omega, h⟩ hin))
      · exact .inl h0)
end Go.Proofs.Ytelcoeeijkainaa.Sec
