/-
  trammellaw05.TypPuts returns true, if typ's functions answer as the reference's do. Condition: that premise.
-/
import Derived.Test.YthhdbjpimjkekaaTypBackLaw
import Derived.Deep.RegionHeldLaw
namespace Go.Proofs.Ythhdbjpimjkekaa.Typ
open Go.RowKit Leb

theorem app_stepg {w : World} {ops : Array Oper} {o : Oper} {a : Act} {K : Act → World → Prop} {Q : Exit → Act → World → Prop} {E : Prop} (hw : Region.wanted o (yielded ops a.tmps) = true) (s x : Operand) (ho : o.op = .call { callee := .builtin .append, args := #[s, x], argTypes := #[22, 22] })
    (base : Nat) (v : Value) (l : List Nat) (hs : a.eval s = v) (hown : Own w base v l) (hb : ∀ y ∈ l, y < 256) (A : Option Addr) (l' : List Nat) (m c B k : Nat) (hm : l'.length = m) (hx : a.eval x = .slice A m c) (hr : Bytes w B A l') (h0 : 0 < m)
    (hk : (l ++ l').length = k) (hlen : k ≤ 140737488355328) (hbase : base ≤ w.heap.size)
    (h : ∀ A' c' w', Own w' base (.slice A' k c') (l ++ l') → Bytes w' w'.heap.size A' (l ++ l') → k ≤ c' → (A' = none → c' = 0) → Below base w w' → K (a.put o.dst (.slice A' k c')) w') :
    if Region.wanted o (yielded ops a.tmps) = true then Oper.wp Try.prog o a w K Q else E := by
  rw [if_pos hw]
  obtain ⟨i0, hi0, hz0, hz1, hz2⟩ := info_parts u8_info
  subst hm
  have hlen' : l.length + l'.length ≤ 140737488355328 := by simp at hk; omega
  obtain ⟨b, off, rfl, _, hcell⟩ := hr.2 h0
  refine wp_append_own w s x _ ho base 5 i0 (.int .u8 0) 1 1 Try.underlying22 hi0 hz0 hz1 hz2 rfl (by omega) v l.length (l.map bv) hs hown ⟨b, off, none⟩ l'.length c (l'.map bv) hx (by simp) ?_ (bv_oneCell l') (by simp only [maxLen]; omega) (by omega) hbase ?_
  · intro j u hu
    have hj : j < l'.length := by
      rcases Nat.lt_or_ge j l'.length with hj | hj
      · exact hj
      · rw [List.getElem?_eq_none (by simpa using hj)] at hu; cases hu
    have := hcell j hj
    rw [List.getElem?_map, List.getElem?_eq_getElem hj] at hu
    simp at hu
    subst hu
    by_cases h0 : j = 0
    · subst h0; simpa [Addr.add, bv] using this
    · simpa [Addr.add, h0, bv] using this
  · intro v' w' h1 h2 _
    have ho' : Own w' base v' (l ++ l') := by
      unfold Own
      rw [List.length_append, List.map_append]
      exact h1
    subst hk
    obtain ⟨A', c', hv, h3, h4, h5⟩ := ho'.bytes (fun y hy => (List.mem_append.1 hy).elim (hb y) (hr.1 y))
    subst hv
    exact h A' c' w' ho' h3 h4 h5 (below_own hown hbase h2)
theorem bsame_yes {A A' : Option Addr} {l : List Nat} {k k' c c' B B' : Nat} {w : World} (hb : Bytes w B A l) (hb' : Bytes w B' A' l) (hk : l.length = k) (hk' : l.length = k') (hlen : k ≤ 140737488355328) :
    Calls Try.prog 19 #[.slice A k c, .slice A' k' c'] w fun e w' => e = .returned (.bool true) ∧ ∃ m, w' = w.drewN m := by
  subst hk hk'
  have := same_is A A' l l c c' B B' w hb hb' hlen hlen
  simpa using this
theorem Bx.drew {w W : World} {x0 x1 : Value} {a : Int} {cap : Bool} {b : Int} (h : Bx w W x0 x1 a cap b) : Bx w W.drew x0 x1 a cap b := h.keep (Below.refl _ _).drew
theorem Bx.drewN {w W : World} {x0 x1 : Value} {a : Int} {cap : Bool} {b : Int} (h : Bx w W x0 x1 a cap b) (n : Nat) : Bx w (W.drewN n) x0 x1 a cap b := h.keep (below_drewN (Below.refl _ _) n)
section
variable (A A1 A2 : Option Addr) (n1 c1 n2 c2 len c m : Nat) (a b t : Int) (cap : Bool) (w : World) (l : List Nat)
  (hm : min (len : Int) 300 = (m : Int)) (hmc : m ≤ c) (hm3 : m ≤ 300) (hl : l.length = m) (hs : Slc w A c l)
  (HA : Hid (∀ W, Below w.heap.size w W → Calls Try.prog 7 #[] W fun e w' => e = .returned (.bool true) ∧ Below W.heap.size W w'))
  (r1 r2 r3 : Bool) (fb f lb f2 bb f3 : List Nat) (k1 j1 e1 k2 j2 e2 k3 j3 e3 : Nat)
  (he1 : r1 = true ∧ e1 = 0 ∧ fb = l ++ f ∧ k1 = m + j1 ∨ r1 = false ∧ e1 = 2 ∧ k1 = 0) (hj1 : 1 ≤ j1) (hj1' : j1 ≤ 100) (hk1 : fb.length = k1) (hf1 : f.length = j1)
  (he2 : r2 = true ∧ e2 = 0 ∧ lb = l ++ f2 ∧ k2 = m + j2 ∨ r2 = false ∧ e2 = 2 ∧ k2 = 0) (hj2 : 1 ≤ j2) (hj2' : j2 ≤ 100) (hk2 : lb.length = k2) (hf2 : f2.length = j2)
  (he3 : r3 = true ∧ e3 = 0 ∧ bb = l ++ f3 ∧ k3 = m + j3 ∨ r3 = false ∧ e3 = 2 ∧ k3 = 0) (hj3 : 1 ≤ j3) (hj3' : j3 ≤ 100) (hk3 : bb.length = k3) (hf3 : f3.length = j3)
  (HPF : Hid (∀ W, Below w.heap.size w W → Calls Try.prog 17 #[.slice A m c, .agg #[.slice A1 n1 c1, .slice A2 n2 c2]] W (PutIs W fb k1 e1)))
  (HR1 : Hid (n1 ≤ 60 → n2 ≤ 60 → ∀ W, Below w.heap.size w W → Calls Try.prog 18 #[.agg #[.slice A1 n1 c1, .slice A2 n2 c2]] W fun e w' => e = .returned (.bool r1) ∧ Below W.heap.size W w'))
  (HF1 : Hid (r1 = true → ∀ W, Below w.heap.size w W → Calls Try.prog 21 #[.agg #[.slice A1 n1 c1, .slice A2 n2 c2]] W (GivesB W f j1)))
  (HPL : Hid (∀ W, Below w.heap.size w W → Calls Try.prog 22 #[.slice A m c, .agg #[.int .i64 a, .bool cap, .int .i64 b]] W (PutIs W lb k2 e2)))
  (HR2 : Hid (∀ W, Calls Try.prog 23 #[.agg #[.int .i64 a, .bool cap, .int .i64 b]] W fun e w' => e = .returned (.bool r2) ∧ Below W.heap.size W w'))
  (HF2 : Hid (r2 = true → ∀ W, Calls Try.prog 24 #[.agg #[.int .i64 a, .bool cap, .int .i64 b]] W (GivesB W f2 j2)))
  (HPB : Hid (∀ W, Below w.heap.size w W → Calls Try.prog 25 #[.slice A m c, .int .i64 t] W (PutIs W bb k3 e3)))
  (HR3 : Hid (∀ W, Calls Try.prog 26 #[.int .i64 t] W fun e w' => e = .returned (.bool r3) ∧ W = w'))
  (HF3 : Hid (∀ W, Calls Try.prog 27 #[.int .i64 t] W (GivesB W f3 j3)))
include hm hmc hm3 hl hs HA he1 hj1 hj1' hk1 hf1 he2 hj2 hj2' hk2 hf2 he3 hj3 hj3' hk3 hf3 HPF HR1 HF1 HPL HR2 HF2 HPB HR3 HF3
set_option maxHeartbeats 4000000 in
set_option maxRecDepth 100000 in
theorem puts_walk :
    Calls Try.prog 4 #[.slice A len c, .agg #[.slice A1 n1 c1, .slice A2 n2 c2], .agg #[.int .i64 a, .bool cap, .int .i64 b], .int .i64 t] w fun e w' => e = .returned (.bool true) ∧ Below w.heap.size w w' := by
  have HL := Lib.hid hl
  have HS := Lib.hid hs
  have HE1 := Lib.hid he1
  have HE2 := Lib.hid he2
  have HE3 := Lib.hid he3
  have HK1 := Lib.hid hk1
  have HK2 := Lib.hid hk2
  have HK3 := Lib.hid hk3
  have HJ1 := Lib.hid hf1
  have HJ2 := Lib.hid hf2
  have HJ3 := Lib.hid hf3
  have HC : Hid (∀ W, Below w.heap.size w W → Calls Try.prog 20 #[.slice A m c] W (GivesB W l m)) := Lib.hid fun W hW => by
    have := copy_any A l c W (hs.below hW).bytes hs.nil (by omega)
    rw [hl] at this
    exact gives_b this hs.bytes.1 hl
  have HBX := Lib.hid (bx_of w (.slice A1 n1 c1) (.slice A2 n2 c2) a cap b 26 34)
  clear hl hs he1 he2 he3 hk1 hk2 hk3 hf1 hf2 hf3
  go_enter Try.func4, Try.ntmps4
  go_upto_region 3 with (go_at_call 7; refine (HA.out _ HBX.out.below).mono ?_; rintro e w1 ⟨rfl, hb1⟩)
  have HB1 := Lib.hid (HBX.out.keep hb1)
  clear HBX hb1 HA
  go_cut [0] (fun s0 wx => s0 = .slice A m c ∧ wx = w1)
  case first =>
    by_cases hs : (len : Int) ≤ 300
    · obtain rfl : len = m := by omega
      go_wp2
      go_meet
      exact ⟨rfl, rfl⟩
    · obtain rfl : m = 300 := by omega
      have hc3 : (300 : Int) ≤ (c : Int) := by omega
      go_wp2
      go_meet
      exact ⟨rfl, rfl⟩
  case rest =>
    obtain ⟨rfl, rfl⟩ := hcut
    clear hm
    have q0 := HB1.out.c0
    have q1 := HB1.out.c1
    by_cases h60 : (60 : Int) < (n1 : Int)
    · go_wp2
      go_ret
      exact ⟨rfl, HB1.out.below⟩
    by_cases h60' : (60 : Int) < (n2 : Int)
    · go_wp2
      go_ret
      exact ⟨rfl, HB1.out.below⟩
    go_wp2_with fail
    refine (HPF.out _ HB1.out.below).mono ?_
    intro e w2 hput
    obtain ⟨Ax, cx, rfl, hown, hBx, hnx, hcx, hb2⟩ := hput.get
    have HB2 := Lib.hid (HB1.out.keep hb2)
    have p0 := HB2.out.c0
    have p1 := HB2.out.c1
    clear q0 q1 hb2 hput hown HPF HB1
    go_wp2_with fail
    refine (HR1.out (by omega) (by omega) _ HB2.out.below).mono ?_
    rintro e w3 ⟨rfl, hb3⟩
    have HB3 := Lib.hid (HB2.out.keep hb3)
    have hBx3 := (hBx.below hb3).more hb3.size
    clear p0 p1 hb3 HR1 HB2 hBx
    go_upto_region 8 with fail
    go_cut [68] (fun s68 wx => s68 = .bool false ∧ Hid (Bx w wx (.slice A1 n1 c1) (.slice A2 n2 c2) a cap b))
    case first =>
      rcases HE1.out with ⟨rfl, rfl, hfb, hkk⟩ | ⟨rfl, rfl, hkk⟩
      · subst hfb
        subst hkk
        have hxd := HB3.out.drew
        have HXD := Lib.hid hxd
        have hBd : Bytes w3.drew w3.drew.heap.size Ax (l ++ f) := hBx3
        have HBD := Lib.hid hBd
        have hkl : (l ++ f).length = m + j1 := by rw [List.length_append, HL.out, HJ1.out]
        have HKL := Lib.hid hkl
        refine wp_region_held_drew (S := fun V => V.cell? ⟨w.heap.size, 0, none⟩ = some (.slice A1 n1 c1) ∧ V.cell? ⟨w.heap.size, 1, none⟩ = some (.slice A2 n2 c2)) (by kernel_rfl) ⟨hxd.c0, hxd.c1⟩ (fun hS0 => ?_)
        clear hxd hBx3 hBd hkl HB3
        generalize w3.drew = V at *
        refine wpAnyH_take (i := 0) (oi := { dst := some 39, op := .move (.tmp 11), type := 4, pos := "law.go:57", after := #[], guard := none }) (v := ?_) rfl (by kernel_rfl) (by kernel_rfl) (by kernel_rfl) (fun _ _ _ h => h) (Or.inl ⟨by rfl, ?_⟩) hS0 ?_
        rotate_left
        · (intro w' ⟨hS1, hS2⟩; go_simp) <;> with_reducible rfl
        try simp only [Act.put, List.setIfInBounds_toArray, List.set_cons_zero, List.set_cons_succ]
        refine wpAnyH_take (i := 1) (oi := { dst := some 40, op := .move (.tmp 10), type := 27, pos := "law.go:57", after := #[], guard := none }) (v := ?_) rfl (by kernel_rfl) (by kernel_rfl) (by kernel_rfl) (fun _ _ _ h => h) (Or.inl ⟨by rfl, ?_⟩) hS0 ?_
        rotate_left
        · (intro w' ⟨hS1, hS2⟩; go_simp) <;> with_reducible rfl
        try simp only [Act.put, List.setIfInBounds_toArray, List.set_cons_zero, List.set_cons_succ]
        refine wpAnyH_take (i := 2) (oi := { dst := some 41, op := .binOp .eql 27 (.tmp 40) (.const (.int .i64 0)) 27, type := 4, pos := "law.go:57", after := #[{ on := 1, ground := .data }], guard := none }) (v := ?_) rfl (by kernel_rfl) (by kernel_rfl) (by kernel_rfl) (fun _ _ _ h => h) (Or.inl ⟨by rfl, ?_⟩) hS0 ?_
        rotate_left
        · (intro w' ⟨hS1, hS2⟩; go_simp) <;> with_reducible rfl
        try simp only [Act.put, List.setIfInBounds_toArray, List.set_cons_zero, List.set_cons_succ]
        refine wpAnyH_take (i := 3) (oi := { dst := some 42, op := .binOp .neq 4 (.tmp 39) (.tmp 41) 4, type := 4, pos := "law.go:57", after := #[{ on := 0, ground := .data }, { on := 2, ground := .data }], guard := none }) (v := ?_) rfl (by kernel_rfl) (by kernel_rfl) (by kernel_rfl) (fun _ _ _ h => h) (Or.inl ⟨by rfl, ?_⟩) hS0 ?_
        rotate_left
        · (intro w' ⟨hS1, hS2⟩; go_simp) <;> with_reducible rfl
        try simp only [Act.put, List.setIfInBounds_toArray, List.set_cons_zero, List.set_cons_succ]
        refine wpAnyH_take (i := 4) (oi := { dst := some 43, op := .move (.tmp 42), type := 4, pos := "law.go:57", after := #[{ on := 3, ground := .data }], guard := none }) (v := ?_) rfl (by kernel_rfl) (by kernel_rfl) (by kernel_rfl) (fun _ _ _ h => h) (Or.inl ⟨by rfl, ?_⟩) hS0 ?_
        rotate_left
        · (intro w' ⟨hS1, hS2⟩; go_simp) <;> with_reducible rfl
        try simp only [Act.put, List.setIfInBounds_toArray, List.set_cons_zero, List.set_cons_succ]
        refine wpAnyH_take (i := 5) (oi := { dst := some 44, op := .move (.tmp 11), type := 4, pos := "law.go:57", after := #[{ on := 4, ground := .guard }], guard := some (4, false) }) (v := ?_) rfl (by kernel_rfl) (by kernel_rfl) (by kernel_rfl) (fun _ _ _ h => h) (Or.inl ⟨by rfl, ?_⟩) hS0 ?_
        rotate_left
        · (intro w' ⟨hS1, hS2⟩; go_simp) <;> with_reducible rfl
        try simp only [Act.put, List.setIfInBounds_toArray, List.set_cons_zero, List.set_cons_succ]
        refine wpAnyH_take (i := 6) (oi := { dst := some 45, op := .move (.tmp 44), type := 4, pos := "law.go:57", after := #[{ on := 5, ground := .data }, { on := 4, ground := .chain }, { on := 4, ground := .guard }], guard := some (4, false) }) (v := ?_) rfl (by kernel_rfl) (by kernel_rfl) (by kernel_rfl) (fun _ _ _ h => h) (Or.inl ⟨by rfl, ?_⟩) hS0 ?_
        rotate_left
        · (intro w' ⟨hS1, hS2⟩; go_simp) <;> with_reducible rfl
        try simp only [Act.put, List.setIfInBounds_toArray, List.set_cons_zero, List.set_cons_succ]
        refine wpAnyH_take (i := 7) (oi := { dst := some 46, op := .move (.tmp 9), type := 22, pos := "law.go:57", after := #[{ on := 6, ground := .guard }], guard := some (6, true) }) (v := ?_) rfl (by kernel_rfl) (by kernel_rfl) (by kernel_rfl) (fun _ _ _ h => h) (Or.inl ⟨by rfl, ?_⟩) hS0 ?_
        rotate_left
        · (intro w' ⟨hS1, hS2⟩; go_simp) <;> with_reducible rfl
        try simp only [Act.put, List.setIfInBounds_toArray, List.set_cons_zero, List.set_cons_succ]
        refine wpAnyH_take (i := 8) (oi := { dst := some 47, op := .move (.tmp 0), type := 22, pos := "law.go:57", after := #[{ on := 6, ground := .guard }], guard := some (6, true) }) (v := ?_) rfl (by kernel_rfl) (by kernel_rfl) (by kernel_rfl) (fun _ _ _ h => h) (Or.inl ⟨by rfl, ?_⟩) hS0 ?_
        rotate_left
        · (intro w' ⟨hS1, hS2⟩; go_simp) <;> with_reducible rfl
        try simp only [Act.put, List.setIfInBounds_toArray, List.set_cons_zero, List.set_cons_succ]
        refine wpAnyH_take (i := 10) (oi := { dst := some 49, op := .load 26 (.tmp 5), type := 26, pos := "law.go:57", after := #[{ on := 6, ground := .guard }], guard := some (6, true) }) (v := ?_) rfl (by kernel_rfl) (by kernel_rfl) (by kernel_rfl) (fun _ _ _ h => h) (Or.inl ⟨by rfl, ?_⟩) hS0 ?_
        rotate_left
        · (intro w' ⟨hS1, hS2⟩; go_simp) <;> with_reducible rfl
        try simp only [Act.put, List.setIfInBounds_toArray, List.set_cons_zero, List.set_cons_succ]
        refine wpAnyH_ready (rs := [9]) (by kernel_rfl) (by simp) ?_
        refine AllReadyH.cons (o := { dst := some 48, op := .call { callee := .value (.func 20), args := #[.tmp 47], argTypes := #[22] }, type := 22, pos := "law.go:57", after := #[{ on := 8, ground := .data }, { on := 6, ground := .chain }, { on := 6, ground := .guard }], guard := some (6, true) }) rfl (fun K hK => ?_) AllReadyH.nil
        go_simp
        refine (HC.out _ HXD.out.below).mono ?_
        rintro e w4 ⟨A4, c4, rfl, hown4, hB4, hn4, hc4, hb4⟩
        have hx4 := HXD.out.keep hb4
        have HX4 := Lib.hid hx4
        have hS4 := And.intro hx4.c0 hx4.c1
        have HO4 := Lib.hid hown4
        have HW4 := Lib.hid hb4
        clear hx4 hown4 hb4
        go_wp2_with fail
        refine hK.out _ _ hS4 (fun _ => ?_)
        clear hK K
        try simp only [Act.put, List.setIfInBounds_toArray, List.set_cons_zero, List.set_cons_succ]
        refine wpAnyH_ready (rs := [11]) (by kernel_rfl) (by simp) ?_
        refine AllReadyH.cons (o := { dst := some 50, op := .call { callee := .value (.func 21), args := #[.tmp 49], argTypes := #[26] }, type := 22, pos := "law.go:57", after := #[{ on := 10, ground := .data }, { on := 9, ground := .chain }, { on := 6, ground := .guard }], guard := some (6, true) }) rfl (fun K hK => ?_) AllReadyH.nil
        go_simp
        refine (HF1.out (by trivial) _ HX4.out.below).mono ?_
        rintro e w5 ⟨A5, c5, rfl, hown5, hB5, hn5, hc5, hb5⟩
        have hx5 := HX4.out.keep hb5
        have HX5 := Lib.hid hx5
        have hS5 := And.intro hx5.c0 hx5.c1
        have HO5 := Lib.hid (HO4.out.keep hb5 HO4.out.lt)
        have HW5 := Lib.hid (HW4.out.trans (hb5.mono HW4.out.size))
        clear hx5 hown5 hb5
        go_wp2_with fail
        refine hK.out _ _ hS5 (fun _ => ?_)
        clear hK K
        try simp only [Act.put, List.setIfInBounds_toArray, List.set_cons_zero, List.set_cons_succ]
        refine wpAnyH_ready (rs := [12]) (by kernel_rfl) (by simp) ?_
        refine AllReadyH.cons (o := { dst := some 51, op := .call { callee := .builtin .append, args := #[.tmp 48, .tmp 50], argTypes := #[22, 22] }, type := 22, pos := "law.go:57", after := #[{ on := 9, ground := .data }, { on := 11, ground := .data }, { on := 11, ground := .chain }, { on := 6, ground := .guard }], guard := some (6, true) }) rfl (fun K hK => ?_) AllReadyH.nil
        refine app_stepg (by rfl) (.tmp 48) (.tmp 50) rfl V.heap.size _ l rfl HO5.out HS.out.bytes.1 A5 f j1 c5 _ (m + j1) HJ1.out rfl hB5 hj1 HKL.out (by omega) HW5.out.size ?_
        intro A6 c6 w6 hown6 hB6 hc6 hn6 hb6
        have hx6 := HXD.out.keep (HW5.out.trans hb6)
        have HX6 := Lib.hid hx6
        have hS6 := And.intro hx6.c0 hx6.c1
        have HW6 := Lib.hid (HBD.out.below (HW5.out.trans hb6))
        clear hx6 hown6 hb6
        refine hK.out _ _ hS6 (fun _ => ?_)
        clear hK K
        try simp only [Act.put, List.setIfInBounds_toArray, List.set_cons_zero, List.set_cons_succ]
        refine wpAnyH_ready (rs := [13]) (by kernel_rfl) (by simp) ?_
        refine AllReadyH.cons (o := { dst := some 52, op := .call { callee := .value (.func 19), args := #[.tmp 46, .tmp 51], argTypes := #[22, 22] }, type := 4, pos := "law.go:57", after := #[{ on := 7, ground := .data }, { on := 12, ground := .data }, { on := 12, ground := .chain }, { on := 6, ground := .guard }], guard := some (6, true) }) rfl (fun K hK => ?_) AllReadyH.nil
        go_simp
        refine (bsame_yes HW6.out hB6 HKL.out HKL.out (by omega)).mono ?_
        rintro e w7 ⟨rfl, q7, rfl⟩
        have hx7 := HX6.out.drewN q7
        have HX7 := Lib.hid hx7
        have hS7 := And.intro hx7.c0 hx7.c1
        clear hx7
        go_wp2_with fail
        refine hK.out _ _ hS7 (fun _ => ?_)
        clear hK K
        try simp only [Act.put, List.setIfInBounds_toArray, List.set_cons_zero, List.set_cons_succ]
        refine wpAnyH_take (i := 14) (oi := { dst := some 53, op := .unOp .not 4 (.tmp 52), type := 4, pos := "law.go:57", after := #[{ on := 13, ground := .data }, { on := 6, ground := .guard }], guard := some (6, true) }) (v := ?_) rfl (by kernel_rfl) (by kernel_rfl) (by kernel_rfl) (fun _ _ _ h => h) (Or.inl ⟨by rfl, ?_⟩) hS7 ?_
        rotate_left
        · (intro w' ⟨hS1, hS2⟩; go_simp) <;> with_reducible rfl
        try simp only [Act.put, List.setIfInBounds_toArray, List.set_cons_zero, List.set_cons_succ]
        refine wpAnyH_take (i := 15) (oi := { dst := some 54, op := .pick (.tmp 45) (.tmp 53) (.const (.bool false)), type := 4, pos := "law.go:57", after := #[{ on := 6, ground := .data }, { on := 14, ground := .data }, { on := 4, ground := .guard }], guard := some (4, false) }) (v := ?_) rfl (by kernel_rfl) (by kernel_rfl) (by kernel_rfl) (fun _ _ _ h => h) (Or.inl ⟨by rfl, ?_⟩) hS7 ?_
        rotate_left
        · (intro w' ⟨hS1, hS2⟩; go_simp) <;> with_reducible rfl
        try simp only [Act.put, List.setIfInBounds_toArray, List.set_cons_zero, List.set_cons_succ]
        refine wpAnyH_take (i := 16) (oi := { dst := some 55, op := .pick (.tmp 43) (.const (.bool true)) (.tmp 54), type := 4, pos := "law.go:57", after := #[{ on := 4, ground := .data }, { on := 15, ground := .data }], guard := none }) (v := ?_) rfl (by kernel_rfl) (by kernel_rfl) (by kernel_rfl) (fun _ _ _ h => h) (Or.inl ⟨by rfl, ?_⟩) hS7 ?_
        rotate_left
        · (intro w' ⟨hS1, hS2⟩; go_simp) <;> with_reducible rfl
        try simp only [Act.put, List.setIfInBounds_toArray, List.set_cons_zero, List.set_cons_succ]
        refine wpAnyH_take (i := 17) (oi := { dst := some 56, op := .move (.tmp 55), type := 4, pos := "law.go:57", after := #[{ on := 16, ground := .data }, { on := 13, ground := .chain }], guard := none }) (v := ?_) rfl (by kernel_rfl) (by kernel_rfl) (by kernel_rfl) (fun _ _ _ h => h) (Or.inl ⟨by rfl, ?_⟩) hS7 ?_
        rotate_left
        · (intro w' ⟨hS1, hS2⟩; go_simp) <;> with_reducible rfl
        try simp only [Act.put, List.setIfInBounds_toArray, List.set_cons_zero, List.set_cons_succ]
        refine wpAnyH_take (i := 18) (oi := { dst := some 57, op := .move (.tmp 11), type := 4, pos := "law.go:57", after := #[{ on := 17, ground := .guard }], guard := some (17, false) }) (v := ?_) rfl (by kernel_rfl) (by kernel_rfl) (by kernel_rfl) (fun _ _ _ h => h) (Or.inl ⟨by rfl, ?_⟩) hS7 ?_
        rotate_left
        · (intro w' ⟨hS1, hS2⟩; go_simp) <;> with_reducible rfl
        try simp only [Act.put, List.setIfInBounds_toArray, List.set_cons_zero, List.set_cons_succ]
        refine wpAnyH_take (i := 19) (oi := { dst := some 58, op := .unOp .not 4 (.tmp 57), type := 4, pos := "law.go:57", after := #[{ on := 18, ground := .data }, { on := 17, ground := .guard }], guard := some (17, false) }) (v := ?_) rfl (by kernel_rfl) (by kernel_rfl) (by kernel_rfl) (fun _ _ _ h => h) (Or.inl ⟨by rfl, ?_⟩) hS7 ?_
        rotate_left
        · (intro w' ⟨hS1, hS2⟩; go_simp) <;> with_reducible rfl
        try simp only [Act.put, List.setIfInBounds_toArray, List.set_cons_zero, List.set_cons_succ]
        refine wpAnyH_take (i := 20) (oi := { dst := some 59, op := .move (.tmp 58), type := 4, pos := "law.go:57", after := #[{ on := 19, ground := .data }, { on := 17, ground := .chain }, { on := 17, ground := .guard }], guard := some (17, false) }) (v := ?_) rfl (by kernel_rfl) (by kernel_rfl) (by kernel_rfl) (fun _ _ _ h => h) (Or.inl ⟨by rfl, ?_⟩) hS7 ?_
        rotate_left
        · (intro w' ⟨hS1, hS2⟩; go_simp) <;> with_reducible rfl
        try simp only [Act.put, List.setIfInBounds_toArray, List.set_cons_zero, List.set_cons_succ]
        refine wpAnyH_take (i := 21) (oi := { dst := some 60, op := .move (.tmp 10), type := 27, pos := "law.go:57", after := #[{ on := 20, ground := .guard }], guard := some (20, true) }) (v := undef) rfl (by kernel_rfl) (by kernel_rfl) (by kernel_rfl) (fun _ _ _ h => h) (Or.inr ⟨by rfl, rfl⟩) hS7 ?_
        try simp only [Act.put, List.setIfInBounds_toArray, List.set_cons_zero, List.set_cons_succ]
        refine wpAnyH_take (i := 22) (oi := { dst := some 61, op := .binOp .neq 27 (.tmp 60) (.const (.int .i64 2)) 27, type := 4, pos := "law.go:57", after := #[{ on := 21, ground := .data }, { on := 20, ground := .guard }], guard := some (20, true) }) (v := undef) rfl (by kernel_rfl) (by kernel_rfl) (by kernel_rfl) (fun _ _ _ h => h) (Or.inr ⟨by rfl, rfl⟩) hS7 ?_
        try simp only [Act.put, List.setIfInBounds_toArray, List.set_cons_zero, List.set_cons_succ]
        refine wpAnyH_take (i := 23) (oi := { dst := some 62, op := .move (.tmp 61), type := 4, pos := "law.go:57", after := #[{ on := 22, ground := .data }, { on := 20, ground := .chain }, { on := 20, ground := .guard }], guard := some (20, true) }) (v := undef) rfl (by kernel_rfl) (by kernel_rfl) (by kernel_rfl) (fun _ _ _ h => h) (Or.inr ⟨by rfl, rfl⟩) hS7 ?_
        try simp only [Act.put, List.setIfInBounds_toArray, List.set_cons_zero, List.set_cons_succ]
        refine wpAnyH_take (i := 24) (oi := { dst := some 63, op := .move (.tmp 9), type := 22, pos := "law.go:57", after := #[{ on := 23, ground := .guard }], guard := some (23, false) }) (v := undef) rfl (by kernel_rfl) (by kernel_rfl) (by kernel_rfl) (fun _ _ _ h => h) (Or.inr ⟨by rfl, rfl⟩) hS7 ?_
        try simp only [Act.put, List.setIfInBounds_toArray, List.set_cons_zero, List.set_cons_succ]
        refine wpAnyH_take (i := 25) (oi := { dst := some 64, op := .call { callee := .builtin .len, args := #[.tmp 63], argTypes := #[22] }, type := 3, pos := "law.go:57", after := #[{ on := 24, ground := .data }, { on := 23, ground := .guard }], guard := some (23, false) }) (v := undef) rfl (by kernel_rfl) (by kernel_rfl) (by kernel_rfl) (fun _ _ _ h => h) (Or.inr ⟨by rfl, rfl⟩) hS7 ?_
        try simp only [Act.put, List.setIfInBounds_toArray, List.set_cons_zero, List.set_cons_succ]
        refine wpAnyH_take (i := 26) (oi := { dst := some 65, op := .binOp .neq 3 (.tmp 64) (.const (.int .i64 0)) 3, type := 4, pos := "law.go:57", after := #[{ on := 25, ground := .data }, { on := 23, ground := .guard }], guard := some (23, false) }) (v := undef) rfl (by kernel_rfl) (by kernel_rfl) (by kernel_rfl) (fun _ _ _ h => h) (Or.inr ⟨by rfl, rfl⟩) hS7 ?_
        try simp only [Act.put, List.setIfInBounds_toArray, List.set_cons_zero, List.set_cons_succ]
        refine wpAnyH_take (i := 27) (oi := { dst := some 66, op := .pick (.tmp 62) (.const (.bool true)) (.tmp 65), type := 4, pos := "law.go:57", after := #[{ on := 23, ground := .data }, { on := 26, ground := .data }, { on := 20, ground := .guard }], guard := some (20, true) }) (v := undef) rfl (by kernel_rfl) (by kernel_rfl) (by kernel_rfl) (fun _ _ _ h => h) (Or.inr ⟨by rfl, rfl⟩) hS7 ?_
        try simp only [Act.put, List.setIfInBounds_toArray, List.set_cons_zero, List.set_cons_succ]
        refine wpAnyH_take (i := 28) (oi := { dst := some 67, op := .pick (.tmp 59) (.tmp 66) (.const (.bool false)), type := 4, pos := "law.go:57", after := #[{ on := 20, ground := .data }, { on := 27, ground := .data }, { on := 17, ground := .guard }], guard := some (17, false) }) (v := ?_) rfl (by kernel_rfl) (by kernel_rfl) (by kernel_rfl) (fun _ _ _ h => h) (Or.inl ⟨by rfl, ?_⟩) hS7 ?_
        rotate_left
        · (intro w' ⟨hS1, hS2⟩; go_simp) <;> with_reducible rfl
        try simp only [Act.put, List.setIfInBounds_toArray, List.set_cons_zero, List.set_cons_succ]
        refine wpAnyH_take (i := 29) (oi := { dst := some 68, op := .pick (.tmp 56) (.const (.bool true)) (.tmp 67), type := 4, pos := "law.go:57", after := #[{ on := 17, ground := .data }, { on := 28, ground := .data }], guard := none }) (v := ?_) rfl (by kernel_rfl) (by kernel_rfl) (by kernel_rfl) (fun _ _ _ h => h) (Or.inl ⟨by rfl, ?_⟩) hS7 ?_
        rotate_left
        · (intro w' ⟨hS1, hS2⟩; go_simp) <;> with_reducible rfl
        try simp only [Act.put, List.setIfInBounds_toArray, List.set_cons_zero, List.set_cons_succ]
        refine wpAnyH_done (by kernel_rfl) ?_ _
        go_wp2
        go_meet
        exact ⟨rfl, HX7⟩
      · subst hkk
        go_quiet (fail)
        go_wp2
        go_meet
        exact ⟨rfl, Lib.hid (HB3.out.drewN _)⟩
    case rest =>
      obtain ⟨rfl, HB4⟩ := hcut
      clear HB3 hBx3 HE1 HF1 HJ1 HK1
      have q0 := HB4.out.d0
      have q1 := HB4.out.d1
      have q2 := HB4.out.d2
      go_wp2_with fail
      refine (HPL.out _ HB4.out.below).mono ?_
      intro e w2 hput
      obtain ⟨Ax, cx, rfl, hown, hBx, hnx, hcx, hb2⟩ := hput.get
      have HB2 := Lib.hid (HB4.out.keep hb2)
      have p0 := HB2.out.d0
      have p1 := HB2.out.d1
      have p2 := HB2.out.d2
      clear q0 q1 q2 hb2 hput hown HPL HB4
      go_wp2_with fail
      refine (HR2.out _).mono ?_
      rintro e w3 ⟨rfl, hb3⟩
      have HB3 := Lib.hid (HB2.out.keep hb3)
      have hBx3 := (hBx.below hb3).more hb3.size
      clear p0 p1 p2 hb3 HR2 HB2 hBx
      go_upto_region 12 with fail
      go_cut [106] (fun s106 wx => s106 = .bool false ∧ Hid (Bx w wx (.slice A1 n1 c1) (.slice A2 n2 c2) a cap b))
      case first =>
        rcases HE2.out with ⟨rfl, rfl, hfb, hkk⟩ | ⟨rfl, rfl, hkk⟩
        · subst hfb
          subst hkk
          have hxd := HB3.out.drew
          have HXD := Lib.hid hxd
          have hBd : Bytes w3.drew w3.drew.heap.size Ax (l ++ f2) := hBx3
          have HBD := Lib.hid hBd
          have hkl : (l ++ f2).length = m + j2 := by rw [List.length_append, HL.out, HJ2.out]
          have HKL := Lib.hid hkl
          refine wp_region_held_drew (S := fun V => V.cell? ⟨w.heap.size + 1, 0, none⟩ = some (.int .i64 a) ∧ V.cell? ⟨w.heap.size + 1, 1, none⟩ = some (.bool cap) ∧ V.cell? ⟨w.heap.size + 1, 2, none⟩ = some (.int .i64 b)) (by kernel_rfl) ⟨hxd.d0, hxd.d1, hxd.d2⟩ (fun hS0 => ?_)
          clear hxd hBx3 hBd hkl HB3
          generalize w3.drew = V at *
          refine wpAnyH_take (i := 0) (oi := { dst := some 77, op := .move (.tmp 12), type := 4, pos := "law.go:61", after := #[], guard := none }) (v := ?_) rfl (by kernel_rfl) (by kernel_rfl) (by kernel_rfl) (fun _ _ _ h => h) (Or.inl ⟨by rfl, ?_⟩) hS0 ?_
          rotate_left
          · (intro w' ⟨hS1, hS2, hS3⟩; go_simp) <;> with_reducible rfl
          try simp only [Act.put, List.setIfInBounds_toArray, List.set_cons_zero, List.set_cons_succ]
          refine wpAnyH_take (i := 1) (oi := { dst := some 78, op := .move (.tmp 10), type := 27, pos := "law.go:61", after := #[], guard := none }) (v := ?_) rfl (by kernel_rfl) (by kernel_rfl) (by kernel_rfl) (fun _ _ _ h => h) (Or.inl ⟨by rfl, ?_⟩) hS0 ?_
          rotate_left
          · (intro w' ⟨hS1, hS2, hS3⟩; go_simp) <;> with_reducible rfl
          try simp only [Act.put, List.setIfInBounds_toArray, List.set_cons_zero, List.set_cons_succ]
          refine wpAnyH_take (i := 2) (oi := { dst := some 79, op := .binOp .eql 27 (.tmp 78) (.const (.int .i64 0)) 27, type := 4, pos := "law.go:61", after := #[{ on := 1, ground := .data }], guard := none }) (v := ?_) rfl (by kernel_rfl) (by kernel_rfl) (by kernel_rfl) (fun _ _ _ h => h) (Or.inl ⟨by rfl, ?_⟩) hS0 ?_
          rotate_left
          · (intro w' ⟨hS1, hS2, hS3⟩; go_simp) <;> with_reducible rfl
          try simp only [Act.put, List.setIfInBounds_toArray, List.set_cons_zero, List.set_cons_succ]
          refine wpAnyH_take (i := 3) (oi := { dst := some 80, op := .binOp .neq 4 (.tmp 77) (.tmp 79) 4, type := 4, pos := "law.go:61", after := #[{ on := 0, ground := .data }, { on := 2, ground := .data }], guard := none }) (v := ?_) rfl (by kernel_rfl) (by kernel_rfl) (by kernel_rfl) (fun _ _ _ h => h) (Or.inl ⟨by rfl, ?_⟩) hS0 ?_
          rotate_left
          · (intro w' ⟨hS1, hS2, hS3⟩; go_simp) <;> with_reducible rfl
          try simp only [Act.put, List.setIfInBounds_toArray, List.set_cons_zero, List.set_cons_succ]
          refine wpAnyH_take (i := 4) (oi := { dst := some 81, op := .move (.tmp 80), type := 4, pos := "law.go:61", after := #[{ on := 3, ground := .data }], guard := none }) (v := ?_) rfl (by kernel_rfl) (by kernel_rfl) (by kernel_rfl) (fun _ _ _ h => h) (Or.inl ⟨by rfl, ?_⟩) hS0 ?_
          rotate_left
          · (intro w' ⟨hS1, hS2, hS3⟩; go_simp) <;> with_reducible rfl
          try simp only [Act.put, List.setIfInBounds_toArray, List.set_cons_zero, List.set_cons_succ]
          refine wpAnyH_take (i := 5) (oi := { dst := some 82, op := .move (.tmp 12), type := 4, pos := "law.go:61", after := #[{ on := 4, ground := .guard }], guard := some (4, false) }) (v := ?_) rfl (by kernel_rfl) (by kernel_rfl) (by kernel_rfl) (fun _ _ _ h => h) (Or.inl ⟨by rfl, ?_⟩) hS0 ?_
          rotate_left
          · (intro w' ⟨hS1, hS2, hS3⟩; go_simp) <;> with_reducible rfl
          try simp only [Act.put, List.setIfInBounds_toArray, List.set_cons_zero, List.set_cons_succ]
          refine wpAnyH_take (i := 6) (oi := { dst := some 83, op := .move (.tmp 82), type := 4, pos := "law.go:61", after := #[{ on := 5, ground := .data }, { on := 4, ground := .chain }, { on := 4, ground := .guard }], guard := some (4, false) }) (v := ?_) rfl (by kernel_rfl) (by kernel_rfl) (by kernel_rfl) (fun _ _ _ h => h) (Or.inl ⟨by rfl, ?_⟩) hS0 ?_
          rotate_left
          · (intro w' ⟨hS1, hS2, hS3⟩; go_simp) <;> with_reducible rfl
          try simp only [Act.put, List.setIfInBounds_toArray, List.set_cons_zero, List.set_cons_succ]
          refine wpAnyH_take (i := 7) (oi := { dst := some 84, op := .move (.tmp 9), type := 22, pos := "law.go:61", after := #[{ on := 6, ground := .guard }], guard := some (6, true) }) (v := ?_) rfl (by kernel_rfl) (by kernel_rfl) (by kernel_rfl) (fun _ _ _ h => h) (Or.inl ⟨by rfl, ?_⟩) hS0 ?_
          rotate_left
          · (intro w' ⟨hS1, hS2, hS3⟩; go_simp) <;> with_reducible rfl
          try simp only [Act.put, List.setIfInBounds_toArray, List.set_cons_zero, List.set_cons_succ]
          refine wpAnyH_take (i := 8) (oi := { dst := some 85, op := .move (.tmp 0), type := 22, pos := "law.go:61", after := #[{ on := 6, ground := .guard }], guard := some (6, true) }) (v := ?_) rfl (by kernel_rfl) (by kernel_rfl) (by kernel_rfl) (fun _ _ _ h => h) (Or.inl ⟨by rfl, ?_⟩) hS0 ?_
          rotate_left
          · (intro w' ⟨hS1, hS2, hS3⟩; go_simp) <;> with_reducible rfl
          try simp only [Act.put, List.setIfInBounds_toArray, List.set_cons_zero, List.set_cons_succ]
          refine wpAnyH_take (i := 10) (oi := { dst := some 87, op := .load 34 (.tmp 6), type := 34, pos := "law.go:61", after := #[{ on := 6, ground := .guard }], guard := some (6, true) }) (v := ?_) rfl (by kernel_rfl) (by kernel_rfl) (by kernel_rfl) (fun _ _ _ h => h) (Or.inl ⟨by rfl, ?_⟩) hS0 ?_
          rotate_left
          · (intro w' ⟨hS1, hS2, hS3⟩; go_simp) <;> with_reducible rfl
          try simp only [Act.put, List.setIfInBounds_toArray, List.set_cons_zero, List.set_cons_succ]
          refine wpAnyH_ready (rs := [9]) (by kernel_rfl) (by simp) ?_
          refine AllReadyH.cons (o := { dst := some 86, op := .call { callee := .value (.func 20), args := #[.tmp 85], argTypes := #[22] }, type := 22, pos := "law.go:61", after := #[{ on := 8, ground := .data }, { on := 6, ground := .chain }, { on := 6, ground := .guard }], guard := some (6, true) }) rfl (fun K hK => ?_) AllReadyH.nil
          go_simp
          refine (HC.out _ HXD.out.below).mono ?_
          rintro e w4 ⟨A4, c4, rfl, hown4, hB4, hn4, hc4, hb4⟩
          have hx4 := HXD.out.keep hb4
          have HX4 := Lib.hid hx4
          have hS4 := And.intro hx4.d0 (And.intro hx4.d1 hx4.d2)
          have HO4 := Lib.hid hown4
          have HW4 := Lib.hid hb4
          clear hx4 hown4 hb4
          go_wp2_with fail
          refine hK.out _ _ hS4 (fun _ => ?_)
          clear hK K
          try simp only [Act.put, List.setIfInBounds_toArray, List.set_cons_zero, List.set_cons_succ]
          refine wpAnyH_ready (rs := [11]) (by kernel_rfl) (by simp) ?_
          refine AllReadyH.cons (o := { dst := some 88, op := .call { callee := .value (.func 24), args := #[.tmp 87], argTypes := #[34] }, type := 22, pos := "law.go:61", after := #[{ on := 10, ground := .data }, { on := 9, ground := .chain }, { on := 6, ground := .guard }], guard := some (6, true) }) rfl (fun K hK => ?_) AllReadyH.nil
          go_simp
          refine (HF2.out (by trivial) _).mono ?_
          rintro e w5 ⟨A5, c5, rfl, hown5, hB5, hn5, hc5, hb5⟩
          have hx5 := HX4.out.keep hb5
          have HX5 := Lib.hid hx5
          have hS5 := And.intro hx5.d0 (And.intro hx5.d1 hx5.d2)
          have HO5 := Lib.hid (HO4.out.keep hb5 HO4.out.lt)
          have HW5 := Lib.hid (HW4.out.trans (hb5.mono HW4.out.size))
          clear hx5 hown5 hb5
          go_wp2_with fail
          refine hK.out _ _ hS5 (fun _ => ?_)
          clear hK K
          try simp only [Act.put, List.setIfInBounds_toArray, List.set_cons_zero, List.set_cons_succ]
          refine wpAnyH_ready (rs := [12]) (by kernel_rfl) (by simp) ?_
          refine AllReadyH.cons (o := { dst := some 89, op := .call { callee := .builtin .append, args := #[.tmp 86, .tmp 88], argTypes := #[22, 22] }, type := 22, pos := "law.go:61", after := #[{ on := 9, ground := .data }, { on := 11, ground := .data }, { on := 11, ground := .chain }, { on := 6, ground := .guard }], guard := some (6, true) }) rfl (fun K hK => ?_) AllReadyH.nil
          refine app_stepg (by rfl) (.tmp 86) (.tmp 88) rfl V.heap.size _ l rfl HO5.out HS.out.bytes.1 A5 f2 j2 c5 _ (m + j2) HJ2.out rfl hB5 hj2 HKL.out (by omega) HW5.out.size ?_
          intro A6 c6 w6 hown6 hB6 hc6 hn6 hb6
          have hx6 := HXD.out.keep (HW5.out.trans hb6)
          have HX6 := Lib.hid hx6
          have hS6 := And.intro hx6.d0 (And.intro hx6.d1 hx6.d2)
          have HW6 := Lib.hid (HBD.out.below (HW5.out.trans hb6))
          clear hx6 hown6 hb6
          refine hK.out _ _ hS6 (fun _ => ?_)
          clear hK K
          try simp only [Act.put, List.setIfInBounds_toArray, List.set_cons_zero, List.set_cons_succ]
          refine wpAnyH_ready (rs := [13]) (by kernel_rfl) (by simp) ?_
          refine AllReadyH.cons (o := { dst := some 90, op := .call { callee := .value (.func 19), args := #[.tmp 84, .tmp 89], argTypes := #[22, 22] }, type := 4, pos := "law.go:61", after := #[{ on := 7, ground := .data }, { on := 12, ground := .data }, { on := 12, ground := .chain }, { on := 6, ground := .guard }], guard := some (6, true) }) rfl (fun K hK => ?_) AllReadyH.nil
          go_simp
          refine (bsame_yes HW6.out hB6 HKL.out HKL.out (by omega)).mono ?_
          rintro e w7 ⟨rfl, q7, rfl⟩
          have hx7 := HX6.out.drewN q7
          have HX7 := Lib.hid hx7
          have hS7 := And.intro hx7.d0 (And.intro hx7.d1 hx7.d2)
          clear hx7
          go_wp2_with fail
          refine hK.out _ _ hS7 (fun _ => ?_)
          clear hK K
          try simp only [Act.put, List.setIfInBounds_toArray, List.set_cons_zero, List.set_cons_succ]
          refine wpAnyH_take (i := 14) (oi := { dst := some 91, op := .unOp .not 4 (.tmp 90), type := 4, pos := "law.go:61", after := #[{ on := 13, ground := .data }, { on := 6, ground := .guard }], guard := some (6, true) }) (v := ?_) rfl (by kernel_rfl) (by kernel_rfl) (by kernel_rfl) (fun _ _ _ h => h) (Or.inl ⟨by rfl, ?_⟩) hS7 ?_
          rotate_left
          · (intro w' ⟨hS1, hS2, hS3⟩; go_simp) <;> with_reducible rfl
          try simp only [Act.put, List.setIfInBounds_toArray, List.set_cons_zero, List.set_cons_succ]
          refine wpAnyH_take (i := 15) (oi := { dst := some 92, op := .pick (.tmp 83) (.tmp 91) (.const (.bool false)), type := 4, pos := "law.go:61", after := #[{ on := 6, ground := .data }, { on := 14, ground := .data }, { on := 4, ground := .guard }], guard := some (4, false) }) (v := ?_) rfl (by kernel_rfl) (by kernel_rfl) (by kernel_rfl) (fun _ _ _ h => h) (Or.inl ⟨by rfl, ?_⟩) hS7 ?_
          rotate_left
          · (intro w' ⟨hS1, hS2, hS3⟩; go_simp) <;> with_reducible rfl
          try simp only [Act.put, List.setIfInBounds_toArray, List.set_cons_zero, List.set_cons_succ]
          refine wpAnyH_take (i := 16) (oi := { dst := some 93, op := .pick (.tmp 81) (.const (.bool true)) (.tmp 92), type := 4, pos := "law.go:61", after := #[{ on := 4, ground := .data }, { on := 15, ground := .data }], guard := none }) (v := ?_) rfl (by kernel_rfl) (by kernel_rfl) (by kernel_rfl) (fun _ _ _ h => h) (Or.inl ⟨by rfl, ?_⟩) hS7 ?_
          rotate_left
          · (intro w' ⟨hS1, hS2, hS3⟩; go_simp) <;> with_reducible rfl
          try simp only [Act.put, List.setIfInBounds_toArray, List.set_cons_zero, List.set_cons_succ]
          refine wpAnyH_take (i := 17) (oi := { dst := some 94, op := .move (.tmp 93), type := 4, pos := "law.go:61", after := #[{ on := 16, ground := .data }, { on := 13, ground := .chain }], guard := none }) (v := ?_) rfl (by kernel_rfl) (by kernel_rfl) (by kernel_rfl) (fun _ _ _ h => h) (Or.inl ⟨by rfl, ?_⟩) hS7 ?_
          rotate_left
          · (intro w' ⟨hS1, hS2, hS3⟩; go_simp) <;> with_reducible rfl
          try simp only [Act.put, List.setIfInBounds_toArray, List.set_cons_zero, List.set_cons_succ]
          refine wpAnyH_take (i := 18) (oi := { dst := some 95, op := .move (.tmp 12), type := 4, pos := "law.go:61", after := #[{ on := 17, ground := .guard }], guard := some (17, false) }) (v := ?_) rfl (by kernel_rfl) (by kernel_rfl) (by kernel_rfl) (fun _ _ _ h => h) (Or.inl ⟨by rfl, ?_⟩) hS7 ?_
          rotate_left
          · (intro w' ⟨hS1, hS2, hS3⟩; go_simp) <;> with_reducible rfl
          try simp only [Act.put, List.setIfInBounds_toArray, List.set_cons_zero, List.set_cons_succ]
          refine wpAnyH_take (i := 19) (oi := { dst := some 96, op := .unOp .not 4 (.tmp 95), type := 4, pos := "law.go:61", after := #[{ on := 18, ground := .data }, { on := 17, ground := .guard }], guard := some (17, false) }) (v := ?_) rfl (by kernel_rfl) (by kernel_rfl) (by kernel_rfl) (fun _ _ _ h => h) (Or.inl ⟨by rfl, ?_⟩) hS7 ?_
          rotate_left
          · (intro w' ⟨hS1, hS2, hS3⟩; go_simp) <;> with_reducible rfl
          try simp only [Act.put, List.setIfInBounds_toArray, List.set_cons_zero, List.set_cons_succ]
          refine wpAnyH_take (i := 20) (oi := { dst := some 97, op := .move (.tmp 96), type := 4, pos := "law.go:61", after := #[{ on := 19, ground := .data }, { on := 17, ground := .chain }, { on := 17, ground := .guard }], guard := some (17, false) }) (v := ?_) rfl (by kernel_rfl) (by kernel_rfl) (by kernel_rfl) (fun _ _ _ h => h) (Or.inl ⟨by rfl, ?_⟩) hS7 ?_
          rotate_left
          · (intro w' ⟨hS1, hS2, hS3⟩; go_simp) <;> with_reducible rfl
          try simp only [Act.put, List.setIfInBounds_toArray, List.set_cons_zero, List.set_cons_succ]
          refine wpAnyH_take (i := 21) (oi := { dst := some 98, op := .move (.tmp 10), type := 27, pos := "law.go:61", after := #[{ on := 20, ground := .guard }], guard := some (20, true) }) (v := undef) rfl (by kernel_rfl) (by kernel_rfl) (by kernel_rfl) (fun _ _ _ h => h) (Or.inr ⟨by rfl, rfl⟩) hS7 ?_
          try simp only [Act.put, List.setIfInBounds_toArray, List.set_cons_zero, List.set_cons_succ]
          refine wpAnyH_take (i := 22) (oi := { dst := some 99, op := .binOp .neq 27 (.tmp 98) (.const (.int .i64 2)) 27, type := 4, pos := "law.go:61", after := #[{ on := 21, ground := .data }, { on := 20, ground := .guard }], guard := some (20, true) }) (v := undef) rfl (by kernel_rfl) (by kernel_rfl) (by kernel_rfl) (fun _ _ _ h => h) (Or.inr ⟨by rfl, rfl⟩) hS7 ?_
          try simp only [Act.put, List.setIfInBounds_toArray, List.set_cons_zero, List.set_cons_succ]
          refine wpAnyH_take (i := 23) (oi := { dst := some 100, op := .move (.tmp 99), type := 4, pos := "law.go:61", after := #[{ on := 22, ground := .data }, { on := 20, ground := .chain }, { on := 20, ground := .guard }], guard := some (20, true) }) (v := undef) rfl (by kernel_rfl) (by kernel_rfl) (by kernel_rfl) (fun _ _ _ h => h) (Or.inr ⟨by rfl, rfl⟩) hS7 ?_
          try simp only [Act.put, List.setIfInBounds_toArray, List.set_cons_zero, List.set_cons_succ]
          refine wpAnyH_take (i := 24) (oi := { dst := some 101, op := .move (.tmp 9), type := 22, pos := "law.go:61", after := #[{ on := 23, ground := .guard }], guard := some (23, false) }) (v := undef) rfl (by kernel_rfl) (by kernel_rfl) (by kernel_rfl) (fun _ _ _ h => h) (Or.inr ⟨by rfl, rfl⟩) hS7 ?_
          try simp only [Act.put, List.setIfInBounds_toArray, List.set_cons_zero, List.set_cons_succ]
          refine wpAnyH_take (i := 25) (oi := { dst := some 102, op := .call { callee := .builtin .len, args := #[.tmp 101], argTypes := #[22] }, type := 3, pos := "law.go:61", after := #[{ on := 24, ground := .data }, { on := 23, ground := .guard }], guard := some (23, false) }) (v := undef) rfl (by kernel_rfl) (by kernel_rfl) (by kernel_rfl) (fun _ _ _ h => h) (Or.inr ⟨by rfl, rfl⟩) hS7 ?_
          try simp only [Act.put, List.setIfInBounds_toArray, List.set_cons_zero, List.set_cons_succ]
          refine wpAnyH_take (i := 26) (oi := { dst := some 103, op := .binOp .neq 3 (.tmp 102) (.const (.int .i64 0)) 3, type := 4, pos := "law.go:61", after := #[{ on := 25, ground := .data }, { on := 23, ground := .guard }], guard := some (23, false) }) (v := undef) rfl (by kernel_rfl) (by kernel_rfl) (by kernel_rfl) (fun _ _ _ h => h) (Or.inr ⟨by rfl, rfl⟩) hS7 ?_
          try simp only [Act.put, List.setIfInBounds_toArray, List.set_cons_zero, List.set_cons_succ]
          refine wpAnyH_take (i := 27) (oi := { dst := some 104, op := .pick (.tmp 100) (.const (.bool true)) (.tmp 103), type := 4, pos := "law.go:61", after := #[{ on := 23, ground := .data }, { on := 26, ground := .data }, { on := 20, ground := .guard }], guard := some (20, true) }) (v := undef) rfl (by kernel_rfl) (by kernel_rfl) (by kernel_rfl) (fun _ _ _ h => h) (Or.inr ⟨by rfl, rfl⟩) hS7 ?_
          try simp only [Act.put, List.setIfInBounds_toArray, List.set_cons_zero, List.set_cons_succ]
          refine wpAnyH_take (i := 28) (oi := { dst := some 105, op := .pick (.tmp 97) (.tmp 104) (.const (.bool false)), type := 4, pos := "law.go:61", after := #[{ on := 20, ground := .data }, { on := 27, ground := .data }, { on := 17, ground := .guard }], guard := some (17, false) }) (v := ?_) rfl (by kernel_rfl) (by kernel_rfl) (by kernel_rfl) (fun _ _ _ h => h) (Or.inl ⟨by rfl, ?_⟩) hS7 ?_
          rotate_left
          · (intro w' ⟨hS1, hS2, hS3⟩; go_simp) <;> with_reducible rfl
          try simp only [Act.put, List.setIfInBounds_toArray, List.set_cons_zero, List.set_cons_succ]
          refine wpAnyH_take (i := 29) (oi := { dst := some 106, op := .pick (.tmp 94) (.const (.bool true)) (.tmp 105), type := 4, pos := "law.go:61", after := #[{ on := 17, ground := .data }, { on := 28, ground := .data }], guard := none }) (v := ?_) rfl (by kernel_rfl) (by kernel_rfl) (by kernel_rfl) (fun _ _ _ h => h) (Or.inl ⟨by rfl, ?_⟩) hS7 ?_
          rotate_left
          · (intro w' ⟨hS1, hS2, hS3⟩; go_simp) <;> with_reducible rfl
          try simp only [Act.put, List.setIfInBounds_toArray, List.set_cons_zero, List.set_cons_succ]
          refine wpAnyH_done (by kernel_rfl) ?_ _
          go_wp2
          go_meet
          exact ⟨rfl, HX7⟩
        · subst hkk
          go_quiet (fail)
          go_wp2
          go_meet
          exact ⟨rfl, Lib.hid (HB3.out.drewN _)⟩
      case rest =>
        obtain ⟨rfl, HB4⟩ := hcut
        clear HB3 hBx3 HE2 HF2 HJ2 HK2
        go_wp2_with fail
        refine (HPB.out _ HB4.out.below).mono ?_
        intro e w2 hput
        obtain ⟨Ax, cx, rfl, hown, hBx, hnx, hcx, hb2⟩ := hput.get
        have HB2 := Lib.hid (HB4.out.keep hb2)
        clear hb2 hput hown HPB HB4
        go_wp2_with fail
        refine (HR3.out _).mono ?_
        rintro e w3 ⟨rfl, rfl⟩
        rcases HE3.out with ⟨rfl, rfl, hfb, hkk⟩ | ⟨rfl, rfl, hkk⟩
        · subst hfb
          subst hkk
          have hkl : (l ++ f3).length = m + j3 := by rw [List.length_append, HL.out, HJ3.out]
          have HKL := Lib.hid hkl
          have HBX3 := Lib.hid hBx
          clear hkl hBx
          go_wp2_with fail
          refine (HC.out _ HB2.out.below).mono ?_
          rintro e w4 ⟨A4, c4, rfl, hown4, hB4, hn4, hc4, hb4⟩
          go_wp2_with fail
          refine (HF3.out _).mono ?_
          rintro e w5 ⟨A5, c5, rfl, hown5, hB5, hn5, hc5, hb5⟩
          have hown4' := hown4.keep hb5 hown4.lt
          have hb45 := hb4.trans (hb5.mono hb4.size)
          have hsz := hb45.size
          clear hb4 hb5 hown4 hown5 hB4
          go_wp2_with (at_builtin; refine app_guarded (by rfl) (.tmp 124) (.tmp 126) rfl w2.heap.size _ l rfl hown4' HS.out.bytes.1 A5 f3 j3 c5 _ (m + j3) HJ3.out rfl hB5 hj3 HKL.out (by omega) hsz ?_; intro A6 c6 w6 hown6 hB6 hc6 hn6 hb6)
          have hb46 := hb45.trans hb6
          have hx6 := HB2.out.keep hb46
          have hB7 := HBX3.out.below hb46
          clear hb45 hb46 hown4' hown6 hb6 HB2
          refine (bsame_yes hB7 hB6 HKL.out HKL.out (by omega)).mono ?_
          rintro e w7 ⟨rfl, q7, rfl⟩
          clear hB7
          go_wp2
          go_ret
          exact ⟨rfl, (hx6.drewN q7).below⟩
        · subst hkk
          go_wp2
          go_ret
          exact ⟨rfl, HB2.out.below⟩
end
theorem putRes_cases (ok : Bool) (l m : List Nat) : (ok = true ∧ (putRes ok l m).2 = 0 ∧ (putRes ok l m).1 = l ++ m ∧ (putRes ok l m).1.length = l.length + m.length) ∨ (ok = false ∧ (putRes ok l m).2 = 2 ∧ (putRes ok l m).1.length = 0) := by
  unfold putRes
  cases ok with
  | false => simp
  | true => simp
/-- The type's bytes, or, where it may not be put, any. -/
theorem func_pick (ps rs : List Int) : ∃ f : List Nat, 1 ≤ f.length ∧ f.length ≤ 100 ∧ (rightF ps rs = true → f = funcBytes ps rs) := by
  cases h : rightF ps rs with
  | false => exact ⟨[0], by simp, by simp, fun h => by cases h⟩
  | true => exact ⟨funcBytes ps rs, by simp [funcBytes], (funcBytes_lt ps rs h).2, fun _ => rfl⟩
theorem puts_law {T : World → Prop} (D : Does T) (A : Option Addr) (l0 : List Nat) (c : Nat) (v : Value) (ps rs : List Int) (a b t : Int) (cap : Bool) (w : World) (hT : T w) (hs0 : Slc w A c l0) (hft : FType w v ps rs) (hp : ps.length ≤ maxLen) (hr : rs.length ≤ maxLen) (ha : I64 a) (hb : I64 b) (ht : I64 t) :
    Calls Try.prog 4 #[.slice A l0.length c, v, limV a cap b, .int .i64 t] w fun e w' => e = .returned (.bool true) ∧ Below w.heap.size w w' := by
  have hft0 := hft
  obtain ⟨A1, c1, A2, c2, rfl, _, _, _, _, _, _⟩ := hft0
  obtain ⟨l, hl⟩ : ∃ l, l = l0.take 300 := ⟨_, rfl⟩
  have hs : Slc w A c l := by rw [hl]; exact hs0.take 300
  have hlen : min (l0.length : Int) 300 = (l.length : Int) := by rw [hl, List.length_take]; omega
  have hl300 : l.length ≤ 300 := by rw [hl, List.length_take]; omega
  obtain ⟨f, f1, f2, f3⟩ := func_pick ps rs
  have g1 := putU_len a.toNat
  have hlb := limBytes_lt a.toNat b.toNat cap
  have hlb1 : 1 ≤ (limBytes a.toNat cap b.toNat).length := by unfold limBytes; cases cap <;> simp
  have hbb := putS_len t
  have HFT : ∀ W, Below w.heap.size w W → ∃ A3 c3 A4 c4, (Value.agg #[.slice A1 ps.length c1, .slice A2 rs.length c2]) = .agg #[.slice A3 ps.length c3, .slice A4 rs.length c4] ∧ Ints W W.heap.size A3 ps ∧ Ints W W.heap.size A4 rs := fun W hW => by
    obtain ⟨A3, c3, A4, c4, e, i1, i2, _⟩ := hft.below hW
    exact ⟨A3, c3, A4, c4, e, i1, i2⟩
  refine puts_walk A A1 A2 ps.length c1 rs.length c2 l0.length c l.length a b t cap w l hlen hs.room hl300 rfl hs (Lib.hid fun W hW => awake_any D W (D.keep _ _ hT hW))
    (rightF ps rs) (rightLim a cap b) (rightBlock t) (putRes (rightF ps rs) l (funcBytes ps rs)).1 f (putRes (rightLim a cap b) l (limBytes a.toNat cap b.toNat)).1 (limBytes a.toNat cap b.toNat) (putRes (rightBlock t) l (putS t)).1 (putS t)
    _ _ (putRes (rightF ps rs) l (funcBytes ps rs)).2 _ _ (putRes (rightLim a cap b) l (limBytes a.toNat cap b.toNat)).2 _ _ (putRes (rightBlock t) l (putS t)).2
    ?_ f1 f2 rfl rfl (putRes_cases _ _ _) hlb1 hlb.2 rfl rfl (putRes_cases _ _ _) hbb.1 (by omega) rfl rfl
    (Lib.hid fun W hW => ?_) (Lib.hid fun hp60 hr60 W hW => ?_) (Lib.hid fun ok W hW => ?_) (Lib.hid fun W hW => ?_) (Lib.hid fun W => ?_) (Lib.hid fun ok W => ?_) (Lib.hid fun W hW => ?_) (Lib.hid fun W => ?_) (Lib.hid fun W => ?_)
  · rcases putRes_cases (rightF ps rs) l (funcBytes ps rs) with h | h
    · rw [f3 h.1]; exact .inl h
    · exact .inr h
  · exact D.putFunc A l c _ _ ps rs W (hs.below hW) (by omega) (hft.below hW) hp hr rfl (D.keep _ _ hT hW)
  · obtain ⟨A3, c3, A4, c4, e, i1, i2⟩ := HFT W hW
    rw [e]
    exact right_any A3 A4 c3 c4 ps rs W i1 i2 (by omega) (by omega)
  · obtain ⟨A3, c3, A4, c4, e, i1, i2⟩ := HFT W hW
    rw [e, f3 ok]
    have ok' := ok
    unfold rightF at ok'
    obtain ⟨g3, g4⟩ := of_decide_eq_true ok'
    exact gives_b (funcBytes_any A3 A4 c3 c4 ps rs W i1 i2 g3 g4) (funcBytes_lt ps rs ok).1 rfl
  · exact D.putLimits A l c _ a b cap W (hs.below hW) (by omega) ha hb rfl (D.keep _ _ hT hW)
  · exact rightLim_any a cap b W
  · unfold rightLim at ok
    obtain ⟨r1, r2, r3, r4, _⟩ := of_decide_eq_true ok
    have := gives_b (limBytes_any a.toNat b.toNat cap W (by omega) (by omega)) hlb.1 rfl
    simp only [Int.toNat_of_nonneg r1, Int.toNat_of_nonneg r3] at this
    exact this
  · exact D.putBlock A l c _ t W (hs.below hW) (by omega) ht rfl (D.keep _ _ hT hW)
  · exact rightBlock_any t W
  · exact gives_b (blockBytes_any t W ht) (putS_lt t) rfl
end Go.Proofs.Ythhdbjpimjkekaa.Typ
