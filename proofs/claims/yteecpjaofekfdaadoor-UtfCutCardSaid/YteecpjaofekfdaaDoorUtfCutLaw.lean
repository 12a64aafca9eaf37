/-
  trammellaw02.UtfCut answers true for every text and every place. Condition: the library's two tables of utf8 hold what they were laid with.
-/
import Derived.Test.YteecpjaofekfdaaDoorUtfBackLaw
import Derived.Test.YteecpjaofekfdaaDoorUtfLaws
import Derived.Deep.RegionWith
import Derived.Deep.RegionHeld3
namespace Go.Proofs.YteecpjaofekfdaaDoor.Utf
open Go.RowKit Go.Proofs.YteecpjaofekfdaaDoor.Leb

theorem putU_small (n : Nat) (h : n < 128) : putU n = [n] := by
  unfold putU
  simp only [putUf]
  rw [if_pos (by omega)]
/-- A name's bytes, cut anywhere, are too short. -/
theorem name_cut (s : ByteArray) (m : Nat) (h : faultOf (bl s) = 0) (hm : m < (putU s.size ++ bl s).length) : nameRes ((putU s.size ++ bl s).take m) = (⟨#[]⟩, 0, 1) := by
  have h64 := (fault_size s h).1
  rw [putU_small s.size (by omega)] at hm ⊢
  have hlen : ([s.size] ++ bl s).length = s.size + 1 := by simp [bl_len]
  cases m with
  | zero =>
    have hu : uRes [] 32 = (0, 0, 1) := by decide +kernel
    simp only [List.take_zero]
    unfold nameRes
    rw [hu]
    rfl
  | succ m =>
    have e : ([s.size] ++ bl s).take (m + 1) = putU s.size ++ (bl s).take m := by rw [putU_small s.size (by omega)]; rfl
    have hu := uRes_put s.size 32 ((bl s).take m) (by omega) (by omega) (by omega)
    rw [putU_small s.size (by omega)] at hu
    have hl : ((bl s).take m).length = m := by rw [List.length_take, bl_len]; omega
    rw [e, putU_small s.size (by omega)]
    unfold nameRes
    rw [hu]
    simp only
    rw [if_neg (by simp), if_pos (by simp only [List.length_append, List.length_cons, List.length_nil, hl]; omega)]
theorem bl_cut (s : ByteArray) (m : Nat) : bl (s.extract 0 m) = (bl s).take m := by
  unfold bl
  rw [ByteArray.data_extract, Array.toList_extract, List.extract_eq_take_drop, List.map_take, List.map_drop]
  rfl
set_option maxHeartbeats 2000000 in
theorem cut_not (s : ByteArray) (m : Int) (w : World) (hT : Tabs w) (hs : s.size ≤ 9223372036854775807) (hf : faultOf (bl s) ≠ 0) :
    Calls Tryd.prog 7 #[.string s, .int .i64 m] w fun e w' => e = .returned (.bool true) ∧ Below w.heap.size w w' := by
  have HA := Lib.hid (awake_any w hT)
  go_enter Tryd.func7, Tryd.ntmps7
  go_wp2_with (go_at_call 8; refine HA.out.mono ?_; rintro e w1 ⟨rfl, hb1⟩)
  refine (uput_not none 0 0 _ s w1 (hT.below hb1) hs rfl hf).mono ?_
  rintro e w2 ⟨rfl, hb2⟩
  have hb3 := hb1.trans (hb2.mono hb1.size)
  have hne : (((faultOf (bl s) : Nat) : Int) != 0) = true := by simp; omega
  generalize ((faultOf (bl s) : Nat) : Int) = E at *
  clear HA hf
  go_wp2
  go_ret
  exact ⟨rfl, hb3⟩
set_option maxHeartbeats 2000000 in
theorem cut_out (s : ByteArray) (m : Int) (k : Nat) (w : World) (hT : Tabs w) (hs : s.size ≤ 9223372036854775807) (hf : faultOf (bl s) = 0) (hk : (putU s.size ++ bl s).length = k) (hm : m < 0 ∨ (k : Int) ≤ m) :
    Calls Tryd.prog 7 #[.string s, .int .i64 m] w fun e w' => e = .returned (.bool true) ∧ Below w.heap.size w w' := by
  have HA := Lib.hid (awake_any w hT)
  have HK := Lib.hid hk
  clear hk
  by_cases h0 : m < 0
  · clear hm
    go_enter Tryd.func7, Tryd.ntmps7
    go_wp2_with (go_at_call 8; refine HA.out.mono ?_; rintro e w1 ⟨rfl, hb1⟩)
    refine (uput_any none [] 0 k s w1 (hT.below hb1) (bytes_nil w1) (fun _ => rfl) (by simp) hs hf HK.out).mono ?_
    rintro e w2 ⟨A2, c2, rfl, ho2, hB2, hn2, hc2, hb2⟩
    have hb3 := hb1.trans (hb2.mono hb1.size)
    clear HA hf ho2 hB2 hn2
    go_wp2
    go_ret
    exact ⟨rfl, hb3⟩
  · have hm' : (k : Int) ≤ m := by omega
    clear hm
    go_enter Tryd.func7, Tryd.ntmps7
    go_wp2_with (go_at_call 8; refine HA.out.mono ?_; rintro e w1 ⟨rfl, hb1⟩)
    refine (uput_any none [] 0 k s w1 (hT.below hb1) (bytes_nil w1) (fun _ => rfl) (by simp) hs hf HK.out).mono ?_
    rintro e w2 ⟨A2, c2, rfl, ho2, hB2, hn2, hc2, hb2⟩
    have hb3 := hb1.trans (hb2.mono hb1.size)
    clear HA hf ho2 hB2 hn2
    go_wp2
    go_ret
    exact ⟨rfl, hb3⟩
theorem cut_byte (s : ByteArray) (m : Nat) (hms : m < s.size) (hv : vld (bl s) = true) : (vld (bl (s.extract 0 m)) = true ↔ ((s[m]'hms).toNat < 128 ∨ 192 ≤ (s[m]'hms).toNat)) := by
  have h := vld_cut _ (bl s) m (Nat.le_refl _) (by rw [bl_len]; exact hms) hv
  rw [bl_cut, h]
  have e : (bl s).getD m 0 = (s[m]'hms).toNat := by
    unfold bl
    have hm' : m < s.data.toList.length := by rw [data_len]; exact hms
    simp [List.getD, List.getElem?_eq_getElem hm']
    rfl
  rw [e]
theorem Tabs.drew {w : World} (h : Tabs w) : Tabs w.drew := h.below (Below.refl _ _).drew
set_option maxHeartbeats 4000000 in
theorem cut_end (s : ByteArray) (m k : Nat) (w : World) (hT : Tabs w) (hs : s.size ≤ 9223372036854775807) (hf : faultOf (bl s) = 0) (hk : (putU s.size ++ bl s).length = k) (hm : m < k) (hms : ¬ m < s.size) :
    Calls Tryd.prog 7 #[.string s, .int .i64 (m : Int)] w fun e w' => e = .returned (.bool true) ∧ Below w.heap.size w w' := by
  have HA := Lib.hid (awake_any w hT)
  have hN := name_cut s m hf (by omega)
  obtain ⟨h64, hv⟩ := fault_size s hf
  have hk64 : k = s.size + 1 := by rw [← hk, putU_small s.size (by omega)]; simp [bl_len]
  have hml : ((putU s.size ++ bl s).take m).length = m := by rw [List.length_take]; omega
  have HK := Lib.hid hk
  have HN := Lib.hid hN
  have HML := Lib.hid hml
  have HV := Lib.hid hv
  have hkb : k ≤ 65 := by omega
  have HK64 := Lib.hid hk64
  clear hk hN hml hv hk64
  have hm0 : ¬ (m : Int) < 0 := by omega
  have hmk : ¬ (k : Int) ≤ (m : Int) := by omega
  go_enter Tryd.func7, Tryd.ntmps7
  go_wp2_with (go_at_call 8; refine HA.out.mono ?_; rintro e w1 ⟨rfl, hb1⟩)
  refine (uput_any none [] 0 k s w1 (hT.below hb1) (bytes_nil w1) (fun _ => rfl) (by simp) hs hf HK.out).mono ?_
  rintro e w2 ⟨A2, c2, rfl, ho2, hB2, hn2, hc2, hb2⟩
  have hb3 := hb1.trans (hb2.mono hb1.size)
  go_wp2_with fail
  have hN := uname_any A2 ((putU s.size ++ bl s).take m) c2 w2 (hT.below hb3) (hB2.take m) (by rw [HML.out]; omega) (by rw [HML.out]; omega)
  rw [HN.out, HML.out] at hN
  refine hN.mono ?_
  rintro e w4 ⟨rfl, hb4⟩
  have hb5 := hb3.trans (hb4.mono hb3.size)
  clear hN HA hf ho2 hB2 hn2 hb1 hb2 hb3 hb4 HML HN
  have hmsi : ¬ (m : Int) < (s.size : Int) := by omega
  have hmsd : decide (s.size ≤ m) = true := by simp; omega
  go_wp2_with fail
  go_quiet (fail)
  go_wp2
  go_ret
  exact ⟨rfl, below_drewN hb5 _⟩
set_option maxHeartbeats 4000000 in
theorem cut_high (s : ByteArray) (m k : Nat) (w : World) (hT : Tabs w) (hs : s.size ≤ 9223372036854775807) (hf : faultOf (bl s) = 0) (hk : (putU s.size ++ bl s).length = k) (hm : m < k) (hms : m < s.size) (hy : ¬ ((s[m]'hms).toNat : Int) < 128) (HE : Hid ((vld (bl (s.extract 0 m)) == decide ((191 : Int) < ((s[m]'hms).toNat : Int))) = true)) :
    Calls Tryd.prog 7 #[.string s, .int .i64 (m : Int)] w fun e w' => e = .returned (.bool true) ∧ Below w.heap.size w w' := by
  have HA := Lib.hid (awake_any w hT)
  have hN := name_cut s m hf (by omega)
  obtain ⟨h64, hv⟩ := fault_size s hf
  have hk64 : k = s.size + 1 := by rw [← hk, putU_small s.size (by omega)]; simp [bl_len]
  have hml : ((putU s.size ++ bl s).take m).length = m := by rw [List.length_take]; omega
  have HK := Lib.hid hk
  have HN := Lib.hid hN
  have HML := Lib.hid hml
  have HV := Lib.hid hv
  have hkb : k ≤ 65 := by omega
  have HK64 := Lib.hid hk64
  clear hk hN hml hv hk64
  have hm0 : ¬ (m : Int) < 0 := by omega
  have hmk : ¬ (k : Int) ≤ (m : Int) := by omega
  go_enter Tryd.func7, Tryd.ntmps7
  go_wp2_with (go_at_call 8; refine HA.out.mono ?_; rintro e w1 ⟨rfl, hb1⟩)
  refine (uput_any none [] 0 k s w1 (hT.below hb1) (bytes_nil w1) (fun _ => rfl) (by simp) hs hf HK.out).mono ?_
  rintro e w2 ⟨A2, c2, rfl, ho2, hB2, hn2, hc2, hb2⟩
  have hb3 := hb1.trans (hb2.mono hb1.size)
  go_wp2_with fail
  have hN := uname_any A2 ((putU s.size ++ bl s).take m) c2 w2 (hT.below hb3) (hB2.take m) (by rw [HML.out]; omega) (by rw [HML.out]; omega)
  rw [HN.out, HML.out] at hN
  refine hN.mono ?_
  rintro e w4 ⟨rfl, hb4⟩
  have hb5 := hb3.trans (hb4.mono hb3.size)
  clear hN HA hf ho2 hB2 hn2 hb1 hb2 hb3 hb4 HML HN
  have hmsi : (m : Int) < (s.size : Int) := by omega
  have hmsd : decide (s.size ≤ m) = false := by simp; omega
  have hmsz : m ≤ s.size := by omega
  have HVal := Lib.hid (fun W => uvalid_any (s.extract 0 m) W (by rw [ByteArray.size_extract]; omega))
  have hT4 := hT.below hb5
  have hmle : (m : Int) ≤ (s.size : Int) := by omega
  have h0m : (0 : Int) ≤ (m : Int) := by omega
  have hyd : decide (((s[m]'hms).toNat : Int) < 128) = false := by simp; omega
  go_wp2_with fail
  go_region_held3 (fun _ => True) (exact trivial) (first | (go_at_call 9; refine (HVal.out _ hT4.drew).mono ?_; rintro e w5 ⟨rfl, hb6⟩))
  all_goals
    go_wp2
    go_ret
    exact ⟨ret_bool HE.out, hb5.drew.trans (hb6.mono hb5.drew.size)⟩
set_option maxHeartbeats 1000000 in
set_option maxRecDepth 100000 in
theorem cut_low (s : ByteArray) (m k : Nat) (w : World) (hT : Tabs w) (hs : s.size ≤ 9223372036854775807) (hf : faultOf (bl s) = 0) (hk : (putU s.size ++ bl s).length = k) (hm : m < k) (hms : m < s.size) (hy : ((s[m]'hms).toNat : Int) < 128) (HE : Hid (vld (bl (s.extract 0 m)) = true)) :
    Calls Tryd.prog 7 #[.string s, .int .i64 (m : Int)] w fun e w' => e = .returned (.bool true) ∧ Below w.heap.size w w' := by
  have HA := Lib.hid (awake_any w hT)
  have hN := name_cut s m hf (by omega)
  obtain ⟨h64, hv⟩ := fault_size s hf
  have hk64 : k = s.size + 1 := by rw [← hk, putU_small s.size (by omega)]; simp [bl_len]
  have hml : ((putU s.size ++ bl s).take m).length = m := by rw [List.length_take]; omega
  have HK := Lib.hid hk
  have HN := Lib.hid hN
  have HML := Lib.hid hml
  have HV := Lib.hid hv
  have hkb : k ≤ 65 := by omega
  have HK64 := Lib.hid hk64
  clear hk hN hml hv hk64
  have hm0 : ¬ (m : Int) < 0 := by omega
  have hmk : ¬ (k : Int) ≤ (m : Int) := by omega
  go_enter Tryd.func7, Tryd.ntmps7
  go_wp2_with (go_at_call 8; refine HA.out.mono ?_; rintro e w1 ⟨rfl, hb1⟩)
  refine (uput_any none [] 0 k s w1 (hT.below hb1) (bytes_nil w1) (fun _ => rfl) (by simp) hs hf HK.out).mono ?_
  rintro e w2 ⟨A2, c2, rfl, ho2, hB2, hn2, hc2, hb2⟩
  have hb3 := hb1.trans (hb2.mono hb1.size)
  go_wp2_with fail
  have hN := uname_any A2 ((putU s.size ++ bl s).take m) c2 w2 (hT.below hb3) (hB2.take m) (by rw [HML.out]; omega) (by rw [HML.out]; omega)
  rw [HN.out, HML.out] at hN
  refine hN.mono ?_
  rintro e w4 ⟨rfl, hb4⟩
  have hb5 := hb3.trans (hb4.mono hb3.size)
  clear hN HA hf ho2 hB2 hn2 hb1 hb2 hb3 hb4 HML HN
  have hmsi : (m : Int) < (s.size : Int) := by omega
  have hmsd : decide (s.size ≤ m) = false := by simp; omega
  have hmsz : m ≤ s.size := by omega
  have HVal : Hid (∀ W, Tabs W → Calls Tryd.prog 9 #[.string (s.extract 0 m)] W fun e w' => e = .returned (.bool true) ∧ Below W.heap.size W w') := Lib.hid (fun W hW => by
    have h := uvalid_any (s.extract 0 m) W (by rw [ByteArray.size_extract]; omega) hW
    rw [HE.out] at h
    exact h)
  clear HE
  have hT4 := hT.below hb5
  have hmle : (m : Int) ≤ (s.size : Int) := by omega
  have h0m : (0 : Int) ≤ (m : Int) := by omega
  have hyd : decide (((s[m]'hms).toNat : Int) < 128) = true := by simp; omega
  go_wp2_with fail
  refine wp_region_held_drew (S := fun _ => True) (by kernel_rfl) trivial (fun _ => ?_)
  refine wpAnyH_take (i := 0) (oi := { dst := some 43, op := .move (.tmp 1), type := 3, pos := "law.go:85", after := #[], guard := none }) (v := ?_) rfl (by kernel_rfl) (by kernel_rfl) (by kernel_rfl) (fun _ _ _ h => h) (Or.inl ⟨by rfl, ?_⟩) trivial ?_
  rotate_left
  · (intro w' _; go_simp) <;> with_reducible rfl
  simp only [Act.put, List.setIfInBounds_toArray, List.set_cons_zero, List.set_cons_succ]
  refine wpAnyH_take (i := 1) (oi := { dst := some 44, op := .move (.tmp 0), type := 9, pos := "law.go:85", after := #[], guard := none }) (v := ?_) rfl (by kernel_rfl) (by kernel_rfl) (by kernel_rfl) (fun _ _ _ h => h) (Or.inl ⟨by rfl, ?_⟩) trivial ?_
  rotate_left
  · (intro w' _; go_simp) <;> with_reducible rfl
  simp only [Act.put, List.setIfInBounds_toArray, List.set_cons_zero, List.set_cons_succ]
  refine wpAnyH_take (i := 2) (oi := { dst := some 45, op := .call { callee := .builtin .len, args := #[.tmp 44], argTypes := #[9] }, type := 3, pos := "law.go:85", after := #[{ on := 1, ground := .data }], guard := none }) (v := ?_) rfl (by kernel_rfl) (by kernel_rfl) (by kernel_rfl) (fun _ _ _ h => h) (Or.inl ⟨by rfl, ?_⟩) trivial ?_
  rotate_left
  · (intro w' _; go_simp) <;> with_reducible rfl
  simp only [Act.put, List.setIfInBounds_toArray, List.set_cons_zero, List.set_cons_succ]
  refine wpAnyH_take (i := 3) (oi := { dst := some 46, op := .binOp .geq 3 (.tmp 43) (.tmp 45) 3, type := 4, pos := "law.go:85", after := #[{ on := 0, ground := .data }, { on := 2, ground := .data }], guard := none }) (v := ?_) rfl (by kernel_rfl) (by kernel_rfl) (by kernel_rfl) (fun _ _ _ h => h) (Or.inl ⟨by rfl, ?_⟩) trivial ?_
  rotate_left
  · (intro w' _; go_simp) <;> with_reducible rfl
  simp only [Act.put, List.setIfInBounds_toArray, List.set_cons_zero, List.set_cons_succ]
  refine wpAnyH_take (i := 4) (oi := { dst := some 47, op := .move (.tmp 46), type := 4, pos := "law.go:85", after := #[{ on := 3, ground := .data }], guard := none }) (v := ?_) rfl (by kernel_rfl) (by kernel_rfl) (by kernel_rfl) (fun _ _ _ h => h) (Or.inl ⟨by rfl, ?_⟩) trivial ?_
  rotate_left
  · (intro w' _; go_simp) <;> with_reducible rfl
  simp only [Act.put, List.setIfInBounds_toArray, List.set_cons_zero, List.set_cons_succ]
  refine wpAnyH_take (i := 5) (oi := { dst := some 48, op := .move (.tmp 0), type := 9, pos := "law.go:85", after := #[{ on := 4, ground := .guard }], guard := some (4, false) }) (v := ?_) rfl (by kernel_rfl) (by kernel_rfl) (by kernel_rfl) (fun _ _ _ h => h) (Or.inl ⟨by rfl, ?_⟩) trivial ?_
  rotate_left
  · (intro w' _; go_simp) <;> with_reducible rfl
  simp only [Act.put, List.setIfInBounds_toArray, List.set_cons_zero, List.set_cons_succ]
  refine wpAnyH_take (i := 6) (oi := { dst := some 49, op := .move (.tmp 1), type := 3, pos := "law.go:85", after := #[{ on := 4, ground := .guard }], guard := some (4, false) }) (v := ?_) rfl (by kernel_rfl) (by kernel_rfl) (by kernel_rfl) (fun _ _ _ h => h) (Or.inl ⟨by rfl, ?_⟩) trivial ?_
  rotate_left
  · (intro w' _; go_simp) <;> with_reducible rfl
  simp only [Act.put, List.setIfInBounds_toArray, List.set_cons_zero, List.set_cons_succ]
  refine wpAnyH_take (i := 7) (oi := { dst := some 50, op := .slice 9 (.tmp 48) none (some (.tmp 49)) none, type := 9, pos := "law.go:85", after := #[{ on := 5, ground := .data }, { on := 6, ground := .data }, { on := 4, ground := .guard }], guard := some (4, false) }) (v := ?_) rfl (by kernel_rfl) (by kernel_rfl) (by kernel_rfl) (fun _ _ _ h => h) (Or.inl ⟨by rfl, ?_⟩) trivial ?_
  rotate_left
  · (intro w' _; go_simp) <;> with_reducible rfl
  simp only [Act.put, List.setIfInBounds_toArray, List.set_cons_zero, List.set_cons_succ]
  refine wpAnyH_take (i := 9) (oi := { dst := some 52, op := .move (.tmp 0), type := 9, pos := "law.go:85", after := #[{ on := 4, ground := .guard }], guard := some (4, false) }) (v := ?_) rfl (by kernel_rfl) (by kernel_rfl) (by kernel_rfl) (fun _ _ _ h => h) (Or.inl ⟨by rfl, ?_⟩) trivial ?_
  rotate_left
  · (intro w' _; go_simp) <;> with_reducible rfl
  simp only [Act.put, List.setIfInBounds_toArray, List.set_cons_zero, List.set_cons_succ]
  refine wpAnyH_take (i := 10) (oi := { dst := some 53, op := .move (.tmp 1), type := 3, pos := "law.go:85", after := #[{ on := 4, ground := .guard }], guard := some (4, false) }) (v := ?_) rfl (by kernel_rfl) (by kernel_rfl) (by kernel_rfl) (fun _ _ _ h => h) (Or.inl ⟨by rfl, ?_⟩) trivial ?_
  rotate_left
  · (intro w' _; go_simp) <;> with_reducible rfl
  simp only [Act.put, List.setIfInBounds_toArray, List.set_cons_zero, List.set_cons_succ]
  refine wpAnyH_take (i := 11) (oi := { dst := some 54, op := .index 9 (.tmp 52) (.tmp 53), type := 5, pos := "law.go:85", after := #[{ on := 9, ground := .data }, { on := 10, ground := .data }, { on := 4, ground := .guard }], guard := some (4, false) }) (v := ?_) rfl (by kernel_rfl) (by kernel_rfl) (by kernel_rfl) (fun _ _ _ h => h) (Or.inl ⟨by rfl, ?_⟩) trivial ?_
  rotate_left
  · (intro w' _; go_simp) <;> with_reducible rfl
  simp only [Act.put, List.setIfInBounds_toArray, List.set_cons_zero, List.set_cons_succ]
  refine wpAnyH_take (i := 12) (oi := { dst := some 55, op := .binOp .lss 5 (.tmp 54) (.const (.int .u8 128)) 5, type := 4, pos := "law.go:85", after := #[{ on := 11, ground := .data }, { on := 4, ground := .guard }], guard := some (4, false) }) (v := ?_) rfl (by kernel_rfl) (by kernel_rfl) (by kernel_rfl) (fun _ _ _ h => h) (Or.inl ⟨by rfl, ?_⟩) trivial ?_
  rotate_left
  · (intro w' _; go_simp) <;> with_reducible rfl
  simp only [Act.put, List.setIfInBounds_toArray, List.set_cons_zero, List.set_cons_succ]
  refine wpAnyH_ready (rs := [8]) (by kernel_rfl) (by simp) ?_
  refine AllReadyH.cons (o := { dst := some 51, op := .call { callee := .value (.func 9), args := #[.tmp 50], argTypes := #[9] }, type := 4, pos := "law.go:85", after := #[{ on := 7, ground := .data }, { on := 4, ground := .chain }, { on := 4, ground := .guard }], guard := some (4, false) }) rfl (fun K hK => ?_) AllReadyH.nil
  go_simp
  refine (HVal.out _ hT4.drew).mono ?_
  rintro e w5 ⟨rfl, hb6⟩
  go_wp2_with fail
  refine hK.out _ _ trivial (fun _ => ?_)
  clear hK K
  try simp only [Act.put, List.setIfInBounds_toArray, List.set_cons_zero, List.set_cons_succ]
  refine wpAnyH_take (i := 13) (oi := { dst := some 56, op := .move (.tmp 55), type := 4, pos := "law.go:85", after := #[{ on := 12, ground := .data }, { on := 8, ground := .chain }, { on := 4, ground := .guard }], guard := some (4, false) }) (v := ?_) rfl (by kernel_rfl) (by kernel_rfl) (by kernel_rfl) (fun _ _ _ h => h) (Or.inl ⟨by rfl, ?_⟩) trivial ?_
  rotate_left
  · (intro w' _; go_simp) <;> with_reducible rfl
  simp only [Act.put, List.setIfInBounds_toArray, List.set_cons_zero, List.set_cons_succ]
  refine wpAnyH_take (i := 14) (oi := { dst := some 57, op := .move (.tmp 0), type := 9, pos := "law.go:85", after := #[{ on := 13, ground := .guard }], guard := some (13, false) }) (v := undef) rfl (by kernel_rfl) (by kernel_rfl) (by kernel_rfl) (fun _ _ _ h => h) (Or.inr ⟨by rfl, rfl⟩) trivial ?_
  simp only [Act.put, List.setIfInBounds_toArray, List.set_cons_zero, List.set_cons_succ]
  refine wpAnyH_take (i := 15) (oi := { dst := some 58, op := .move (.tmp 1), type := 3, pos := "law.go:85", after := #[{ on := 13, ground := .guard }], guard := some (13, false) }) (v := undef) rfl (by kernel_rfl) (by kernel_rfl) (by kernel_rfl) (fun _ _ _ h => h) (Or.inr ⟨by rfl, rfl⟩) trivial ?_
  simp only [Act.put, List.setIfInBounds_toArray, List.set_cons_zero, List.set_cons_succ]
  refine wpAnyH_take (i := 16) (oi := { dst := some 59, op := .index 9 (.tmp 57) (.tmp 58), type := 5, pos := "law.go:85", after := #[{ on := 14, ground := .data }, { on := 15, ground := .data }, { on := 13, ground := .guard }], guard := some (13, false) }) (v := undef) rfl (by kernel_rfl) (by kernel_rfl) (by kernel_rfl) (fun _ _ _ h => h) (Or.inr ⟨by rfl, rfl⟩) trivial ?_
  simp only [Act.put, List.setIfInBounds_toArray, List.set_cons_zero, List.set_cons_succ]
  refine wpAnyH_take (i := 17) (oi := { dst := some 60, op := .binOp .gtr 5 (.tmp 59) (.const (.int .u8 191)) 5, type := 4, pos := "law.go:85", after := #[{ on := 16, ground := .data }, { on := 13, ground := .guard }], guard := some (13, false) }) (v := undef) rfl (by kernel_rfl) (by kernel_rfl) (by kernel_rfl) (fun _ _ _ h => h) (Or.inr ⟨by rfl, rfl⟩) trivial ?_
  simp only [Act.put, List.setIfInBounds_toArray, List.set_cons_zero, List.set_cons_succ]
  refine wpAnyH_take (i := 18) (oi := { dst := some 61, op := .pick (.tmp 56) (.const (.bool true)) (.tmp 60), type := 4, pos := "law.go:85", after := #[{ on := 13, ground := .data }, { on := 17, ground := .data }, { on := 4, ground := .guard }], guard := some (4, false) }) (v := ?_) rfl (by kernel_rfl) (by kernel_rfl) (by kernel_rfl) (fun _ _ _ h => h) (Or.inl ⟨by rfl, ?_⟩) trivial ?_
  rotate_left
  · (intro w' _; go_simp) <;> with_reducible rfl
  simp only [Act.put, List.setIfInBounds_toArray, List.set_cons_zero, List.set_cons_succ]
  refine wpAnyH_take (i := 19) (oi := { dst := some 62, op := .binOp .eql 4 (.tmp 51) (.tmp 61) 4, type := 4, pos := "law.go:85", after := #[{ on := 8, ground := .data }, { on := 18, ground := .data }, { on := 4, ground := .guard }], guard := some (4, false) }) (v := ?_) rfl (by kernel_rfl) (by kernel_rfl) (by kernel_rfl) (fun _ _ _ h => h) (Or.inl ⟨by rfl, ?_⟩) trivial ?_
  rotate_left
  · (intro w' _; go_simp) <;> with_reducible rfl
  simp only [Act.put, List.setIfInBounds_toArray, List.set_cons_zero, List.set_cons_succ]
  refine wpAnyH_take (i := 20) (oi := { dst := some 63, op := .pick (.tmp 47) (.const (.bool true)) (.tmp 62), type := 4, pos := "law.go:85", after := #[{ on := 4, ground := .data }, { on := 19, ground := .data }], guard := none }) (v := ?_) rfl (by kernel_rfl) (by kernel_rfl) (by kernel_rfl) (fun _ _ _ h => h) (Or.inl ⟨by rfl, ?_⟩) trivial ?_
  rotate_left
  · (intro w' _; go_simp) <;> with_reducible rfl
  simp only [Act.put, List.setIfInBounds_toArray, List.set_cons_zero, List.set_cons_succ]
  refine wpAnyH_take (i := 21) (oi := { dst := some 4, op := .assign (.tmp 63), type := 4, pos := "law.go:85", after := #[{ on := 20, ground := .data }, { on := 13, ground := .chain }, { on := 0, ground := .phase }, { on := 1, ground := .phase }, { on := 2, ground := .phase }, { on := 3, ground := .phase }, { on := 4, ground := .phase }, { on := 5, ground := .phase }, { on := 6, ground := .phase }, { on := 7, ground := .phase }, { on := 8, ground := .phase }, { on := 9, ground := .phase }, { on := 10, ground := .phase }, { on := 11, ground := .phase }, { on := 12, ground := .phase }, { on := 13, ground := .phase }, { on := 14, ground := .phase }, { on := 15, ground := .phase }, { on := 16, ground := .phase }, { on := 17, ground := .phase }, { on := 18, ground := .phase }, { on := 19, ground := .phase }, { on := 20, ground := .phase }], guard := none }) (v := ?_) rfl (by kernel_rfl) (by kernel_rfl) (by kernel_rfl) (fun _ _ _ h => h) (Or.inl ⟨by rfl, ?_⟩) trivial ?_
  rotate_left
  · (intro w' _; go_simp) <;> with_reducible rfl
  simp only [Act.put, List.setIfInBounds_toArray, List.set_cons_zero, List.set_cons_succ]
  refine wpAnyH_done (by kernel_rfl) ?_ _
  go_wp2
  go_ret
  exact ⟨rfl, hb5.drew.trans (hb6.mono hb5.drew.size)⟩
theorem cut_law (s : ByteArray) (m : Int) (w : World) (hT : Tabs w) (hs : s.size ≤ 9223372036854775807) :
    Calls Tryd.prog 7 #[.string s, .int .i64 m] w fun e w' => e = .returned (.bool true) ∧ Below w.heap.size w w' := by
  by_cases hf : faultOf (bl s) = 0
  · by_cases hm : m < 0 ∨ (((putU s.size ++ bl s).length : Nat) : Int) ≤ m
    · exact cut_out s m _ w hT hs hf rfl hm
    · obtain ⟨n, rfl⟩ := Int.eq_ofNat_of_zero_le (show 0 ≤ m by omega)
      have hn : n < (putU s.size ++ bl s).length := by omega
      by_cases hms : n < s.size
      · have hcb := cut_byte s n hms (fault_size s hf).2
        by_cases hy : ((s[n]'hms).toNat : Int) < 128
        · exact cut_low s n _ w hT hs hf rfl hn hms hy (Lib.hid (hcb.2 (by omega)))
        · refine cut_high s n _ w hT hs hf rfl hn hms hy (Lib.hid ?_)
          by_cases h2 : (191 : Int) < ((s[n]'hms).toNat : Int)
          · rw [hcb.2 (by omega), decide_eq_true h2]; rfl
          · have h3 : vld (bl (s.extract 0 n)) = false := by
              cases hv : vld (bl (s.extract 0 n)) with
              | false => rfl
              | true => have := hcb.1 hv; omega
            rw [h3, decide_eq_false h2]; rfl
      · exact cut_end s n _ w hT hs hf rfl hn hms
  · exact cut_not s m w hT hs hf
end Go.Proofs.YteecpjaofekfdaaDoor.Utf
