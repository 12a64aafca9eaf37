/-
  InsPutsLaw: trammellaw06.InstrPuts answers true, if instr's functions do as the plain words say. Condition: that premise.
  InsPutsTop: trammellaw06.InstrPuts answers true, if instr's functions do as the plain words say. Condition: that premise.
-/
import Derived.Test.YtdipgokbfjbgfaaInsRTop
import Derived.Test.YtdipgokbfjbgfaaInsRCopy
import Derived.Test.YtdipgokbfjbgfaaInsShort
import Derived.Test.YtdipgokbfjbgfaaInsDoes
import Derived.Test.YtdipgokbfjbgfaaLebAll
import Derived.Deep.RegionHeld3
import Derived.Deep.DeepCutAuto
namespace Go.Proofs.Ytdipgokbfjbgfaa.Ins
open Go.RowKit Leb Typ

theorem app_stepq {w : World} {ops : Array Oper} {o : Oper} {a : Act} {K : Act → World → Prop} {Q : Exit → Act → World → Prop} {E : Prop} (hw : Region.wanted o (yielded ops a.tmps) = true) (s x : Operand) (ho : o.op = .call { callee := .builtin .append, args := #[s, x], argTypes := #[22, 22] })
    (base : Nat) (v : Value) (l : List Nat) (hs : a.eval s = v) (hown : Own w base v l) (hb : ∀ y ∈ l, y < 256) (A : Option Addr) (l' : List Nat) (m c B k : Nat) (hm : l'.length = m) (hx : a.eval x = .slice A m c) (hr : Bytes w B A l') (h0 : 0 < m)
    (hk : (l ++ l').length = k) (hlen : k ≤ 140737488355328) (hbase : base ≤ w.heap.size)
    (h : ∀ A' c' w', Own w' base (.slice A' k c') (l ++ l') → Bytes w' w'.heap.size A' (l ++ l') → k ≤ c' → (A' = none → c' = 0) → Below base w w' → K (a.put o.dst (.slice A' k c')) w') :
    if Region.wanted o (yielded ops a.tmps) = true then Oper.wp Try.prog o a w K Q else E := by
  rw [if_pos hw]
  obtain ⟨i0, hi0, hz0, hz1, hz2⟩ := info_parts u8_info
  subst hm
  have hlen' : l.length + l'.length ≤ 140737488355328 := by simp at hk; omega
  obtain ⟨b, off, rfl, _, hcell⟩ := hr.2 h0
  refine wp_append_own w s x _ ho base 5 i0 (.int .u8 0) 1 1 Try.underlying22 hi0 hz0 hz1 hz2 rfl (by omega) v l.length (l.map bv) hs hown ⟨b, off, none⟩ l'.length c (l'.map bv) hx (by simp) ?_ (bv_oneCell l') (by simp only [maxLen]; omega) (by omega) hbase ?_
  · intro j u hu
    have hj : j < l'.length := by
      rcases Nat.lt_or_ge j l'.length with hj | hj
      · exact hj
      · rw [List.getElem?_eq_none (by simpa using hj)] at hu; cases hu
    have := hcell j hj
    rw [List.getElem?_map, List.getElem?_eq_getElem hj] at hu
    simp at hu
    subst hu
    by_cases h0 : j = 0
    · subst h0; simpa [Addr.add, bv] using this
    · simpa [Addr.add, h0, bv] using this
  · intro v' w' h1 h2 _
    have ho' : Own w' base v' (l ++ l') := by
      unfold Own
      rw [List.length_append, List.map_append]
      exact h1
    subst hk
    obtain ⟨A', c', rfl, h3, h4, h5⟩ := ho'.bytes (fun y hy => (List.mem_append.1 hy).elim (hb y) (hr.1 y))
    exact h A' c' w' ho' h3 h4 h5 (below_own hown hbase h2)
theorem psame_yes {A A' : Option Addr} {l : List Nat} {k k' c c' B B' : Nat} {w : World} (hb : Bytes w B A l) (hb' : Bytes w B' A' l) (hk : l.length = k) (hk' : l.length = k') (hlen : k ≤ 140737488355328) :
    Calls Try.prog 14 #[.slice A k c, .slice A' k' c'] w fun e w' => e = .returned (.bool true) ∧ ∃ m, w' = w.drewN m := by
  subst hk hk'
  have := same_is A A' l l c c' B B' w hb hb' hlen hlen
  simpa using this
section
variable (w : World) (A : Option Addr) (len c : Nat) (op a b k : Int) (LA : Option Addr) (ln lc : Nat) (A2 : Option Addr) (n2 c2 : Nat)
  (HA : Hid (∀ W, Below w.heap.size w W → Calls Try.prog 8 #[] W fun e w' => e = .returned (.bool true) ∧ Below W.heap.size W w'))
include HA
set_option maxHeartbeats 4000000 in
set_option maxRecDepth 100000 in
theorem pl_short (HSH : Hid (∀ W, Below w.heap.size w W → Calls Try.prog 9 #[.slice A2 n2 c2] W (Same1 W (.bool false)))) : Calls Try.prog 3 #[.slice A len c, .agg #[.int .i64 op, .int .i64 a, .int .i64 b, .int .i64 k, .slice LA ln lc], .slice A2 n2 c2] w fun e w' => e = .returned (.bool true) ∧ Below w.heap.size w w' := by
  have HB := Lib.hid (b5_of (Below.refl w.heap.size w) op a b k LA ln lc 25)
  go_enter Try.func3, Try.ntmps3
  go_wp2_with fail
  refine (HA.out _ HB.out.below).mono ?_
  rintro e w1 ⟨rfl, hb1⟩
  have HB1 := Lib.hid (HB.out.keep hb1)
  clear HB hb1 HA
  obtain ⟨hbw, hz, d0, d1, d2, d3, d4⟩ := HB1.out
  go_wp2_with fail
  refine (HSH.out _ hbw).mono ?_
  rintro e w2 ⟨rfl, rfl⟩
  clear HSH
  go_wp2
  go_ret
  exact ⟨rfl, hbw⟩
set_option maxHeartbeats 4000000 in
set_option maxRecDepth 100000 in
theorem pl_labs (HSH : Hid (∀ W, Below w.heap.size w W → Calls Try.prog 9 #[.slice A2 n2 c2] W (Same1 W (.bool true)))) (h1 : (100 : Int) < (ln : Int)) : Calls Try.prog 3 #[.slice A len c, .agg #[.int .i64 op, .int .i64 a, .int .i64 b, .int .i64 k, .slice LA ln lc], .slice A2 n2 c2] w fun e w' => e = .returned (.bool true) ∧ Below w.heap.size w w' := by
  have HB := Lib.hid (b5_of (Below.refl w.heap.size w) op a b k LA ln lc 25)
  go_enter Try.func3, Try.ntmps3
  go_wp2_with fail
  refine (HA.out _ HB.out.below).mono ?_
  rintro e w1 ⟨rfl, hb1⟩
  have HB1 := Lib.hid (HB.out.keep hb1)
  clear HB hb1 HA
  obtain ⟨hbw, hz, d0, d1, d2, d3, d4⟩ := HB1.out
  go_wp2_with fail
  refine (HSH.out _ hbw).mono ?_
  rintro e w2 ⟨rfl, rfl⟩
  clear HSH
  go_wp2
  go_ret
  exact ⟨rfl, hbw⟩
set_option maxHeartbeats 4000000 in
set_option maxRecDepth 100000 in
theorem pl_long (HSH : Hid (∀ W, Below w.heap.size w W → Calls Try.prog 9 #[.slice A2 n2 c2] W (Same1 W (.bool true)))) (h1 : ¬ (100 : Int) < (ln : Int)) (h2 : (1000 : Int) < (len : Int)) : Calls Try.prog 3 #[.slice A len c, .agg #[.int .i64 op, .int .i64 a, .int .i64 b, .int .i64 k, .slice LA ln lc], .slice A2 n2 c2] w fun e w' => e = .returned (.bool true) ∧ Below w.heap.size w w' := by
  have HB := Lib.hid (b5_of (Below.refl w.heap.size w) op a b k LA ln lc 25)
  go_enter Try.func3, Try.ntmps3
  go_wp2_with fail
  refine (HA.out _ HB.out.below).mono ?_
  rintro e w1 ⟨rfl, hb1⟩
  have HB1 := Lib.hid (HB.out.keep hb1)
  clear HB hb1 HA
  obtain ⟨hbw, hz, d0, d1, d2, d3, d4⟩ := HB1.out
  go_wp2_with fail
  refine (HSH.out _ hbw).mono ?_
  rintro e w2 ⟨rfl, rfl⟩
  clear HSH
  go_wp2
  go_ret
  exact ⟨rfl, hbw⟩
set_option maxHeartbeats 4000000 in
set_option maxRecDepth 100000 in
theorem pl_walk (l : List Nat) (xs : List Ins) (rb rc : Bool) (xb ab pb pc : List Nat) (jb ja k1 e1 k2 e2 : Nat) (HSH : Hid (∀ W, Below w.heap.size w W → Calls Try.prog 9 #[.slice A2 n2 c2] W (Same1 W (.bool true)))) (h1 : ¬ (100 : Int) < (ln : Int)) (h2 : ¬ (1000 : Int) < (len : Int)) (hl : l.length = len) (hlt : ∀ y ∈ l, y < 256)
    (he1 : rb = true ∧ e1 = 0 ∧ pb = l ++ xb ∧ k1 = len + jb ∨ rb = false ∧ e1 = 2 ∧ k1 = 0) (hjb : 1 ≤ jb) (hjb' : jb ≤ 5000) (hxb : rb = true → xb.length = jb)
    (he2 : rc = true ∧ e2 = 0 ∧ pc = l ++ ab ∧ k2 = len + ja ∨ rc = false ∧ e2 = 2 ∧ k2 = 0) (hja : 1 ≤ ja) (hja' : ja ≤ 12000000) (hab : rc = true → ab.length = ja)
    (HCP : Hid (∀ W, Below w.heap.size w W → Calls Try.prog 10 #[.slice A2 n2 c2] W (CopyIs W xs n2)))
    (HPU : Hid (∀ W, Below w.heap.size w W → Calls Try.prog 11 #[.slice A len c, .agg #[.int .i64 op, .int .i64 a, .int .i64 b, .int .i64 k, .slice LA ln lc]] W (PutIs W pb k1 e1)))
    (HRF : Hid (∀ W, Below w.heap.size w W → Calls Try.prog 12 #[.agg #[.int .i64 op, .int .i64 a, .int .i64 b, .int .i64 k, .slice LA ln lc]] W (Tells W rb)))
    (HFM : Hid (∀ W, Below w.heap.size w W → Calls Try.prog 13 #[.agg #[.int .i64 op, .int .i64 a, .int .i64 b, .int .i64 k, .slice LA ln lc]] W (Tells W rb)))
    (HCB : Hid (∀ W, Below w.heap.size w W → Calls Try.prog 15 #[.slice A len c] W (GivesB W l len)))
    (HRB : Hid (rb = true → ∀ W, Below w.heap.size w W → Calls Try.prog 16 #[.agg #[.int .i64 op, .int .i64 a, .int .i64 b, .int .i64 k, .slice LA ln lc]] W (GivesB W xb jb)))
    (HPB : Hid (∀ W A7 c7, Below w.heap.size w W → Sli W A7 c7 xs → Calls Try.prog 17 #[.slice A len c, .slice A7 n2 c7] W (PutIs W pc k2 e2)))
    (HRC : Hid (∀ W, Below w.heap.size w W → Calls Try.prog 18 #[.slice A2 n2 c2] W (Tells W rc)))
    (HCL : Hid (∀ W A7 c7, Below w.heap.size w W → Sli W A7 c7 xs → Calls Try.prog 19 #[.slice A7 n2 c7] W (Tells W rc)))
    (HAL : Hid (rc = true → ∀ W, Below w.heap.size w W → Calls Try.prog 20 #[.slice A2 n2 c2] W (GivesB W ab ja)))
    (HSA : Hid (∀ W A7 c7, Below w.heap.size w W → Sli W A7 c7 xs → Calls Try.prog 21 #[.slice A7 n2 c7, .slice A2 n2 c2] W (Tells W true))) :
    Calls Try.prog 3 #[.slice A len c, .agg #[.int .i64 op, .int .i64 a, .int .i64 b, .int .i64 k, .slice LA ln lc], .slice A2 n2 c2] w fun e w' => e = .returned (.bool true) ∧ Below w.heap.size w w' := by
  have HE1 := Lib.hid he1
  have HE2 := Lib.hid he2
  have HL := Lib.hid hl
  have HLT := Lib.hid hlt
  have HXB := Lib.hid hxb
  have HAB := Lib.hid hab
  clear he1 he2 hl hlt hxb hab
  have HB := Lib.hid (b5_of (Below.refl w.heap.size w) op a b k LA ln lc 25)
  go_enter Try.func3, Try.ntmps3
  go_wp2_with fail
  refine (HA.out _ HB.out.below).mono ?_
  rintro e w1 ⟨rfl, hb1⟩
  have HB1 := Lib.hid (HB.out.keep hb1)
  clear HB hb1 HA
  obtain ⟨hbw, hz, d0, d1, d2, d3, d4⟩ := HB1.out
  go_wp2_with fail
  refine (HSH.out _ hbw).mono ?_
  rintro e w2 ⟨rfl, rfl⟩
  clear HSH
  go_wp2_with fail
  refine (HCP.out _ hbw).mono ?_
  rintro e w3 ⟨A7, c7, rfl, hs7, hb3⟩
  clear hbw hz d0 d1 d2 d3 d4
  have HB3 := Lib.hid (HB1.out.keep hb3)
  have HS3 := Lib.hid hs7
  clear HB1 hb3 hs7 HCP
  obtain ⟨hbw, hz, d0, d1, d2, d3, d4⟩ := HB3.out
  go_wp2_with fail
  refine (HPU.out _ hbw).mono ?_
  rintro e w4 ⟨Ax, cx, rfl, hownx, hBx, hnx, hcx, hb4⟩
  clear hbw hz d0 d1 d2 d3 d4 hownx
  have HB4 := Lib.hid (HB3.out.keep hb4)
  have HS4 := Lib.hid (HS3.out.below hb4)
  clear HB3 HS3 hb4 HPU
  obtain ⟨hbw, hz, d0, d1, d2, d3, d4⟩ := HB4.out
  go_wp2_with fail
  refine (HRF.out _ hbw).mono ?_
  rintro e w5 ⟨rfl, hb5⟩
  clear hbw hz d0 d1 d2 d3 d4
  have HB5 := Lib.hid (HB4.out.keep hb5)
  have HS5 := Lib.hid (HS4.out.below hb5)
  have hBx5 := (hBx.below hb5).more hb5.size
  clear HB4 HS4 hb5 hBx HRF
  go_upto_region 8 with fail
  go_cut [72] (fun s72 wx => s72 = .bool false ∧ Hid (B5 w wx w.heap.size op a b k LA ln lc) ∧ Hid (Sli wx A7 c7 xs))
  case first =>
    rcases HE1.out with ⟨rfl, rfl, hfb, hkk⟩ | ⟨rfl, rfl, hkk⟩
    · subst hfb
      subst hkk
      have hxd := HB5.out.keep (Below.refl _ _).drew
      have HXD := Lib.hid hxd
      have HSD := Lib.hid (HS5.out.below (Below.refl _ _).drew)
      have hBd : Bytes w5.drew w5.drew.heap.size Ax (l ++ xb) := hBx5
      have HBD := Lib.hid hBd
      have hkl : (l ++ xb).length = len + jb := by rw [List.length_append, HL.out, HXB.out (by trivial)]
      have HKL := Lib.hid hkl
      refine wp_region_held_drew (S := fun V => V.cell? ⟨w.heap.size, 0, none⟩ = some (.int .i64 op) ∧ V.cell? ⟨w.heap.size, 1, none⟩ = some (.int .i64 a) ∧ V.cell? ⟨w.heap.size, 2, none⟩ = some (.int .i64 b) ∧ V.cell? ⟨w.heap.size, 3, none⟩ = some (.int .i64 k) ∧ V.cell? ⟨w.heap.size, 4, none⟩ = some (.slice LA ln lc)) (by kernel_rfl) ⟨hxd.c0, hxd.c1, hxd.c2, hxd.c3, hxd.c4⟩ (fun hS0 => ?_)
      clear hxd hBx5 hBd hkl HB5 HS5
      generalize w5.drew = V at *
      refine wpAnyH_take (i := 0) (oi := { dst := some 37, op := .load 25 (.tmp 4), type := 25, pos := "law.go:45", after := #[], guard := none }) (v := ?_) rfl (by kernel_rfl) (by kernel_rfl) (by kernel_rfl) (fun _ _ _ h => h) (Or.inl ⟨by rfl, ?_⟩) hS0 ?_
      rotate_left
      · (intro w' ⟨d0, d1, d2, d3, d4⟩; go_simp) <;> with_reducible rfl
      try simp only [Act.put, List.setIfInBounds_toArray, List.set_cons_zero, List.set_cons_succ]
      refine wpAnyH_take (i := 2) (oi := { dst := some 39, op := .move (.tmp 10), type := 4, pos := "law.go:45", after := #[], guard := none }) (v := ?_) rfl (by kernel_rfl) (by kernel_rfl) (by kernel_rfl) (fun _ _ _ h => h) (Or.inl ⟨by rfl, ?_⟩) hS0 ?_
      rotate_left
      · (intro w' ⟨d0, d1, d2, d3, d4⟩; go_simp) <;> with_reducible rfl
      try simp only [Act.put, List.setIfInBounds_toArray, List.set_cons_zero, List.set_cons_succ]
      refine wpAnyH_ready (rs := [1]) (by kernel_rfl) (by simp) ?_
      refine AllReadyH.cons (o := { dst := some 38, op := .call { callee := .value (.func 13), args := #[.tmp 37], argTypes := #[25] }, type := 4, pos := "law.go:45", after := #[{ on := 0, ground := .data }], guard := none }) rfl (fun K hK => ?_) AllReadyH.nil
      go_simp
      refine (HFM.out _ HXD.out.below).mono ?_
      rintro e w6 ⟨rfl, hb6⟩
      have hx6 := HXD.out.keep hb6
      have HX6 := Lib.hid hx6
      have HS6 := Lib.hid (HSD.out.below hb6)
      have hS6 : w6.cell? ⟨w.heap.size, 0, none⟩ = some (.int .i64 op) ∧ w6.cell? ⟨w.heap.size, 1, none⟩ = some (.int .i64 a) ∧ w6.cell? ⟨w.heap.size, 2, none⟩ = some (.int .i64 b) ∧ w6.cell? ⟨w.heap.size, 3, none⟩ = some (.int .i64 k) ∧ w6.cell? ⟨w.heap.size, 4, none⟩ = some (.slice LA ln lc) := ⟨hx6.c0, hx6.c1, hx6.c2, hx6.c3, hx6.c4⟩
      have HBX6 := Lib.hid ((HBD.out.below hb6).more hb6.size)
      clear hx6 hb6 HXD HSD HBD hS0 HFM
      go_wp2_with fail
      refine hK.out _ _ hS6 (fun _ => ?_)
      clear hK K
      try simp only [Act.put, List.setIfInBounds_toArray, List.set_cons_zero, List.set_cons_succ]
      refine wpAnyH_take (i := 3) (oi := { dst := some 40, op := .binOp .neq 4 (.tmp 38) (.tmp 39) 4, type := 4, pos := "law.go:45", after := #[{ on := 1, ground := .data }, { on := 2, ground := .data }], guard := none }) (v := ?_) rfl (by kernel_rfl) (by kernel_rfl) (by kernel_rfl) (fun _ _ _ h => h) (Or.inl ⟨by rfl, ?_⟩) hS6 ?_
      rotate_left
      · (intro w' ⟨d0, d1, d2, d3, d4⟩; go_simp) <;> with_reducible rfl
      try simp only [Act.put, List.setIfInBounds_toArray, List.set_cons_zero, List.set_cons_succ]
      refine wpAnyH_take (i := 4) (oi := { dst := some 41, op := .move (.tmp 40), type := 4, pos := "law.go:45", after := #[{ on := 3, ground := .data }, { on := 1, ground := .chain }], guard := none }) (v := ?_) rfl (by kernel_rfl) (by kernel_rfl) (by kernel_rfl) (fun _ _ _ h => h) (Or.inl ⟨by rfl, ?_⟩) hS6 ?_
      rotate_left
      · (intro w' ⟨d0, d1, d2, d3, d4⟩; go_simp) <;> with_reducible rfl
      try simp only [Act.put, List.setIfInBounds_toArray, List.set_cons_zero, List.set_cons_succ]
      refine wpAnyH_take (i := 5) (oi := { dst := some 42, op := .move (.tmp 10), type := 4, pos := "law.go:45", after := #[{ on := 4, ground := .guard }], guard := some (4, false) }) (v := ?_) rfl (by kernel_rfl) (by kernel_rfl) (by kernel_rfl) (fun _ _ _ h => h) (Or.inl ⟨by rfl, ?_⟩) hS6 ?_
      rotate_left
      · (intro w' ⟨d0, d1, d2, d3, d4⟩; go_simp) <;> with_reducible rfl
      try simp only [Act.put, List.setIfInBounds_toArray, List.set_cons_zero, List.set_cons_succ]
      refine wpAnyH_take (i := 6) (oi := { dst := some 43, op := .move (.tmp 9), type := 30, pos := "law.go:45", after := #[{ on := 4, ground := .guard }], guard := some (4, false) }) (v := ?_) rfl (by kernel_rfl) (by kernel_rfl) (by kernel_rfl) (fun _ _ _ h => h) (Or.inl ⟨by rfl, ?_⟩) hS6 ?_
      rotate_left
      · (intro w' ⟨d0, d1, d2, d3, d4⟩; go_simp) <;> with_reducible rfl
      try simp only [Act.put, List.setIfInBounds_toArray, List.set_cons_zero, List.set_cons_succ]
      refine wpAnyH_take (i := 7) (oi := { dst := some 44, op := .binOp .eql 30 (.tmp 43) (.const (.int .i64 0)) 30, type := 4, pos := "law.go:45", after := #[{ on := 6, ground := .data }, { on := 4, ground := .guard }], guard := some (4, false) }) (v := ?_) rfl (by kernel_rfl) (by kernel_rfl) (by kernel_rfl) (fun _ _ _ h => h) (Or.inl ⟨by rfl, ?_⟩) hS6 ?_
      rotate_left
      · (intro w' ⟨d0, d1, d2, d3, d4⟩; go_simp) <;> with_reducible rfl
      try simp only [Act.put, List.setIfInBounds_toArray, List.set_cons_zero, List.set_cons_succ]
      refine wpAnyH_take (i := 8) (oi := { dst := some 45, op := .binOp .neq 4 (.tmp 42) (.tmp 44) 4, type := 4, pos := "law.go:45", after := #[{ on := 5, ground := .data }, { on := 7, ground := .data }, { on := 4, ground := .guard }], guard := some (4, false) }) (v := ?_) rfl (by kernel_rfl) (by kernel_rfl) (by kernel_rfl) (fun _ _ _ h => h) (Or.inl ⟨by rfl, ?_⟩) hS6 ?_
      rotate_left
      · (intro w' ⟨d0, d1, d2, d3, d4⟩; go_simp) <;> with_reducible rfl
      try simp only [Act.put, List.setIfInBounds_toArray, List.set_cons_zero, List.set_cons_succ]
      refine wpAnyH_take (i := 9) (oi := { dst := some 46, op := .pick (.tmp 41) (.const (.bool true)) (.tmp 45), type := 4, pos := "law.go:45", after := #[{ on := 4, ground := .data }, { on := 8, ground := .data }], guard := none }) (v := ?_) rfl (by kernel_rfl) (by kernel_rfl) (by kernel_rfl) (fun _ _ _ h => h) (Or.inl ⟨by rfl, ?_⟩) hS6 ?_
      rotate_left
      · (intro w' ⟨d0, d1, d2, d3, d4⟩; go_simp) <;> with_reducible rfl
      try simp only [Act.put, List.setIfInBounds_toArray, List.set_cons_zero, List.set_cons_succ]
      refine wpAnyH_take (i := 10) (oi := { dst := some 47, op := .move (.tmp 46), type := 4, pos := "law.go:45", after := #[{ on := 9, ground := .data }, { on := 4, ground := .chain }], guard := none }) (v := ?_) rfl (by kernel_rfl) (by kernel_rfl) (by kernel_rfl) (fun _ _ _ h => h) (Or.inl ⟨by rfl, ?_⟩) hS6 ?_
      rotate_left
      · (intro w' ⟨d0, d1, d2, d3, d4⟩; go_simp) <;> with_reducible rfl
      try simp only [Act.put, List.setIfInBounds_toArray, List.set_cons_zero, List.set_cons_succ]
      refine wpAnyH_take (i := 11) (oi := { dst := some 48, op := .move (.tmp 10), type := 4, pos := "law.go:45", after := #[{ on := 10, ground := .guard }], guard := some (10, false) }) (v := ?_) rfl (by kernel_rfl) (by kernel_rfl) (by kernel_rfl) (fun _ _ _ h => h) (Or.inl ⟨by rfl, ?_⟩) hS6 ?_
      rotate_left
      · (intro w' ⟨d0, d1, d2, d3, d4⟩; go_simp) <;> with_reducible rfl
      try simp only [Act.put, List.setIfInBounds_toArray, List.set_cons_zero, List.set_cons_succ]
      refine wpAnyH_take (i := 12) (oi := { dst := some 49, op := .move (.tmp 48), type := 4, pos := "law.go:45", after := #[{ on := 11, ground := .data }, { on := 10, ground := .chain }, { on := 10, ground := .guard }], guard := some (10, false) }) (v := ?_) rfl (by kernel_rfl) (by kernel_rfl) (by kernel_rfl) (fun _ _ _ h => h) (Or.inl ⟨by rfl, ?_⟩) hS6 ?_
      rotate_left
      · (intro w' ⟨d0, d1, d2, d3, d4⟩; go_simp) <;> with_reducible rfl
      try simp only [Act.put, List.setIfInBounds_toArray, List.set_cons_zero, List.set_cons_succ]
      refine wpAnyH_take (i := 13) (oi := { dst := some 50, op := .move (.tmp 8), type := 22, pos := "law.go:45", after := #[{ on := 12, ground := .guard }], guard := some (12, true) }) (v := ?_) rfl (by kernel_rfl) (by kernel_rfl) (by kernel_rfl) (fun _ _ _ h => h) (Or.inl ⟨by rfl, ?_⟩) hS6 ?_
      rotate_left
      · (intro w' ⟨d0, d1, d2, d3, d4⟩; go_simp) <;> with_reducible rfl
      try simp only [Act.put, List.setIfInBounds_toArray, List.set_cons_zero, List.set_cons_succ]
      refine wpAnyH_take (i := 14) (oi := { dst := some 51, op := .move (.tmp 0), type := 22, pos := "law.go:45", after := #[{ on := 12, ground := .guard }], guard := some (12, true) }) (v := ?_) rfl (by kernel_rfl) (by kernel_rfl) (by kernel_rfl) (fun _ _ _ h => h) (Or.inl ⟨by rfl, ?_⟩) hS6 ?_
      rotate_left
      · (intro w' ⟨d0, d1, d2, d3, d4⟩; go_simp) <;> with_reducible rfl
      try simp only [Act.put, List.setIfInBounds_toArray, List.set_cons_zero, List.set_cons_succ]
      refine wpAnyH_take (i := 16) (oi := { dst := some 53, op := .load 25 (.tmp 4), type := 25, pos := "law.go:45", after := #[{ on := 12, ground := .guard }], guard := some (12, true) }) (v := ?_) rfl (by kernel_rfl) (by kernel_rfl) (by kernel_rfl) (fun _ _ _ h => h) (Or.inl ⟨by rfl, ?_⟩) hS6 ?_
      rotate_left
      · (intro w' ⟨d0, d1, d2, d3, d4⟩; go_simp) <;> with_reducible rfl
      try simp only [Act.put, List.setIfInBounds_toArray, List.set_cons_zero, List.set_cons_succ]
      refine wpAnyH_ready (rs := [15]) (by kernel_rfl) (by simp) ?_
      refine AllReadyH.cons (o := { dst := some 52, op := .call { callee := .value (.func 15), args := #[.tmp 51], argTypes := #[22] }, type := 22, pos := "law.go:45", after := #[{ on := 14, ground := .data }, { on := 12, ground := .chain }, { on := 12, ground := .guard }], guard := some (12, true) }) rfl (fun K hK => ?_) AllReadyH.nil
      go_simp
      refine (HCB.out _ HX6.out.below).mono ?_
      rintro e w7 ⟨A8, c8, rfl, hown8, hB8, hn8, hc8, hb7⟩
      have hx7 := HX6.out.keep hb7
      have HX7 := Lib.hid hx7
      have HW7 := Lib.hid hb7
      have HO7 := Lib.hid hown8
      have hS7 : w7.cell? ⟨w.heap.size, 0, none⟩ = some (.int .i64 op) ∧ w7.cell? ⟨w.heap.size, 1, none⟩ = some (.int .i64 a) ∧ w7.cell? ⟨w.heap.size, 2, none⟩ = some (.int .i64 b) ∧ w7.cell? ⟨w.heap.size, 3, none⟩ = some (.int .i64 k) ∧ w7.cell? ⟨w.heap.size, 4, none⟩ = some (.slice LA ln lc) := ⟨hx7.c0, hx7.c1, hx7.c2, hx7.c3, hx7.c4⟩
      clear hx7 hown8 hB8 hb7 hS6
      go_wp2_with fail
      refine hK.out _ _ hS7 (fun _ => ?_)
      clear hK K
      try simp only [Act.put, List.setIfInBounds_toArray, List.set_cons_zero, List.set_cons_succ]
      refine wpAnyH_ready (rs := [17]) (by kernel_rfl) (by simp) ?_
      refine AllReadyH.cons (o := { dst := some 54, op := .call { callee := .value (.func 16), args := #[.tmp 53], argTypes := #[25] }, type := 22, pos := "law.go:45", after := #[{ on := 16, ground := .data }, { on := 15, ground := .chain }, { on := 12, ground := .guard }], guard := some (12, true) }) rfl (fun K hK => ?_) AllReadyH.nil
      go_simp
      refine (HRB.out (by trivial) _ HX7.out.below).mono ?_
      rintro e w8 ⟨A9, c9, rfl, hown9, hB9, hn9, hc9, hb8⟩
      have hx8 := HX7.out.keep hb8
      have HX8 := Lib.hid hx8
      have HW8 := Lib.hid (HW7.out.trans (hb8.mono HW7.out.size))
      have HO8 := Lib.hid (HO7.out.keep hb8 HO7.out.lt)
      have hS8 : w8.cell? ⟨w.heap.size, 0, none⟩ = some (.int .i64 op) ∧ w8.cell? ⟨w.heap.size, 1, none⟩ = some (.int .i64 a) ∧ w8.cell? ⟨w.heap.size, 2, none⟩ = some (.int .i64 b) ∧ w8.cell? ⟨w.heap.size, 3, none⟩ = some (.int .i64 k) ∧ w8.cell? ⟨w.heap.size, 4, none⟩ = some (.slice LA ln lc) := ⟨hx8.c0, hx8.c1, hx8.c2, hx8.c3, hx8.c4⟩
      clear hx8 hown9 hb8 HX7 HW7 HO7 hS7
      go_wp2_with fail
      refine hK.out _ _ hS8 (fun _ => ?_)
      clear hK K
      try simp only [Act.put, List.setIfInBounds_toArray, List.set_cons_zero, List.set_cons_succ]
      refine wpAnyH_ready (rs := [18]) (by kernel_rfl) (by simp) ?_
      refine AllReadyH.cons (o := { dst := some 55, op := .call { callee := .builtin .append, args := #[.tmp 52, .tmp 54], argTypes := #[22, 22] }, type := 22, pos := "law.go:45", after := #[{ on := 15, ground := .data }, { on := 17, ground := .data }, { on := 17, ground := .chain }, { on := 12, ground := .guard }], guard := some (12, true) }) rfl (fun K hK => ?_) AllReadyH.nil
      refine app_stepq (by rfl) (.tmp 52) (.tmp 54) rfl w6.heap.size _ l rfl HO8.out HLT.out A9 xb jb c9 _ (len + jb) (HXB.out (by trivial)) rfl hB9 hjb HKL.out (by omega) HW8.out.size ?_
      intro A10 c10 w9 hown10 hB10 hc10 hn10 hb9
      have htot := HW8.out.trans hb9
      have hx9 := HX6.out.keep htot
      have HX9 := Lib.hid hx9
      have HS9 := Lib.hid (HS6.out.below htot)
      have HBX9 := Lib.hid ((HBX6.out.below htot).more htot.size)
      have hS9 : w9.cell? ⟨w.heap.size, 0, none⟩ = some (.int .i64 op) ∧ w9.cell? ⟨w.heap.size, 1, none⟩ = some (.int .i64 a) ∧ w9.cell? ⟨w.heap.size, 2, none⟩ = some (.int .i64 b) ∧ w9.cell? ⟨w.heap.size, 3, none⟩ = some (.int .i64 k) ∧ w9.cell? ⟨w.heap.size, 4, none⟩ = some (.slice LA ln lc) := ⟨hx9.c0, hx9.c1, hx9.c2, hx9.c3, hx9.c4⟩
      clear hx9 hown10 hb9 htot HX8 HX6 HS6 HBX6 HW8 HO8 hS8
      refine hK.out _ _ hS9 (fun _ => ?_)
      clear hK K
      try simp only [Act.put, List.setIfInBounds_toArray, List.set_cons_zero, List.set_cons_succ]
      refine wpAnyH_ready (rs := [19]) (by kernel_rfl) (by simp) ?_
      refine AllReadyH.cons (o := { dst := some 56, op := .call { callee := .value (.func 14), args := #[.tmp 50, .tmp 55], argTypes := #[22, 22] }, type := 4, pos := "law.go:45", after := #[{ on := 13, ground := .data }, { on := 18, ground := .data }, { on := 18, ground := .chain }, { on := 12, ground := .guard }], guard := some (12, true) }) rfl (fun K hK => ?_) AllReadyH.nil
      go_simp
      refine (psame_yes HBX9.out hB10 HKL.out HKL.out (by omega)).mono ?_
      rintro e w10 ⟨rfl, q10, rfl⟩
      have hx10 := HX9.out.keep (below_drewN (Below.refl _ _) q10)
      have HX10 := Lib.hid hx10
      have HS10 := Lib.hid (HS9.out.below (below_drewN (Below.refl _ _) q10))
      have hS10 : (w9.drewN q10).cell? ⟨w.heap.size, 0, none⟩ = some (.int .i64 op) ∧ (w9.drewN q10).cell? ⟨w.heap.size, 1, none⟩ = some (.int .i64 a) ∧ (w9.drewN q10).cell? ⟨w.heap.size, 2, none⟩ = some (.int .i64 b) ∧ (w9.drewN q10).cell? ⟨w.heap.size, 3, none⟩ = some (.int .i64 k) ∧ (w9.drewN q10).cell? ⟨w.heap.size, 4, none⟩ = some (.slice LA ln lc) := ⟨hx10.c0, hx10.c1, hx10.c2, hx10.c3, hx10.c4⟩
      clear hx10 HX9 HS9 hS9
      go_wp2_with fail
      refine hK.out _ _ hS10 (fun _ => ?_)
      clear hK K
      try simp only [Act.put, List.setIfInBounds_toArray, List.set_cons_zero, List.set_cons_succ]
      refine wpAnyH_take (i := 20) (oi := { dst := some 57, op := .unOp .not 4 (.tmp 56), type := 4, pos := "law.go:45", after := #[{ on := 19, ground := .data }, { on := 12, ground := .guard }], guard := some (12, true) }) (v := ?_) rfl (by kernel_rfl) (by kernel_rfl) (by kernel_rfl) (fun _ _ _ h => h) (Or.inl ⟨by rfl, ?_⟩) hS10 ?_
      rotate_left
      · (intro w' ⟨d0, d1, d2, d3, d4⟩; go_simp) <;> with_reducible rfl
      try simp only [Act.put, List.setIfInBounds_toArray, List.set_cons_zero, List.set_cons_succ]
      refine wpAnyH_take (i := 21) (oi := { dst := some 58, op := .pick (.tmp 49) (.tmp 57) (.const (.bool false)), type := 4, pos := "law.go:45", after := #[{ on := 12, ground := .data }, { on := 20, ground := .data }, { on := 10, ground := .guard }], guard := some (10, false) }) (v := ?_) rfl (by kernel_rfl) (by kernel_rfl) (by kernel_rfl) (fun _ _ _ h => h) (Or.inl ⟨by rfl, ?_⟩) hS10 ?_
      rotate_left
      · (intro w' ⟨d0, d1, d2, d3, d4⟩; go_simp) <;> with_reducible rfl
      try simp only [Act.put, List.setIfInBounds_toArray, List.set_cons_zero, List.set_cons_succ]
      refine wpAnyH_take (i := 22) (oi := { dst := some 59, op := .pick (.tmp 47) (.const (.bool true)) (.tmp 58), type := 4, pos := "law.go:45", after := #[{ on := 10, ground := .data }, { on := 21, ground := .data }], guard := none }) (v := ?_) rfl (by kernel_rfl) (by kernel_rfl) (by kernel_rfl) (fun _ _ _ h => h) (Or.inl ⟨by rfl, ?_⟩) hS10 ?_
      rotate_left
      · (intro w' ⟨d0, d1, d2, d3, d4⟩; go_simp) <;> with_reducible rfl
      try simp only [Act.put, List.setIfInBounds_toArray, List.set_cons_zero, List.set_cons_succ]
      refine wpAnyH_take (i := 23) (oi := { dst := some 60, op := .move (.tmp 59), type := 4, pos := "law.go:45", after := #[{ on := 22, ground := .data }, { on := 19, ground := .chain }], guard := none }) (v := ?_) rfl (by kernel_rfl) (by kernel_rfl) (by kernel_rfl) (fun _ _ _ h => h) (Or.inl ⟨by rfl, ?_⟩) hS10 ?_
      rotate_left
      · (intro w' ⟨d0, d1, d2, d3, d4⟩; go_simp) <;> with_reducible rfl
      try simp only [Act.put, List.setIfInBounds_toArray, List.set_cons_zero, List.set_cons_succ]
      refine wpAnyH_take (i := 24) (oi := { dst := some 61, op := .move (.tmp 10), type := 4, pos := "law.go:45", after := #[{ on := 23, ground := .guard }], guard := some (23, false) }) (v := ?_) rfl (by kernel_rfl) (by kernel_rfl) (by kernel_rfl) (fun _ _ _ h => h) (Or.inl ⟨by rfl, ?_⟩) hS10 ?_
      rotate_left
      · (intro w' ⟨d0, d1, d2, d3, d4⟩; go_simp) <;> with_reducible rfl
      try simp only [Act.put, List.setIfInBounds_toArray, List.set_cons_zero, List.set_cons_succ]
      refine wpAnyH_take (i := 25) (oi := { dst := some 62, op := .unOp .not 4 (.tmp 61), type := 4, pos := "law.go:45", after := #[{ on := 24, ground := .data }, { on := 23, ground := .guard }], guard := some (23, false) }) (v := ?_) rfl (by kernel_rfl) (by kernel_rfl) (by kernel_rfl) (fun _ _ _ h => h) (Or.inl ⟨by rfl, ?_⟩) hS10 ?_
      rotate_left
      · (intro w' ⟨d0, d1, d2, d3, d4⟩; go_simp) <;> with_reducible rfl
      try simp only [Act.put, List.setIfInBounds_toArray, List.set_cons_zero, List.set_cons_succ]
      refine wpAnyH_take (i := 26) (oi := { dst := some 63, op := .move (.tmp 62), type := 4, pos := "law.go:45", after := #[{ on := 25, ground := .data }, { on := 23, ground := .chain }, { on := 23, ground := .guard }], guard := some (23, false) }) (v := ?_) rfl (by kernel_rfl) (by kernel_rfl) (by kernel_rfl) (fun _ _ _ h => h) (Or.inl ⟨by rfl, ?_⟩) hS10 ?_
      rotate_left
      · (intro w' ⟨d0, d1, d2, d3, d4⟩; go_simp) <;> with_reducible rfl
      try simp only [Act.put, List.setIfInBounds_toArray, List.set_cons_zero, List.set_cons_succ]
      refine wpAnyH_take (i := 27) (oi := { dst := some 64, op := .move (.tmp 9), type := 30, pos := "law.go:45", after := #[{ on := 26, ground := .guard }], guard := some (26, true) }) (v := undef) rfl (by kernel_rfl) (by kernel_rfl) (by kernel_rfl) (fun _ _ _ h => h) (Or.inr ⟨by rfl, by rfl⟩) hS10 ?_
      try simp only [Act.put, List.setIfInBounds_toArray, List.set_cons_zero, List.set_cons_succ]
      refine wpAnyH_take (i := 28) (oi := { dst := some 65, op := .binOp .neq 30 (.tmp 64) (.const (.int .i64 2)) 30, type := 4, pos := "law.go:45", after := #[{ on := 27, ground := .data }, { on := 26, ground := .guard }], guard := some (26, true) }) (v := undef) rfl (by kernel_rfl) (by kernel_rfl) (by kernel_rfl) (fun _ _ _ h => h) (Or.inr ⟨by rfl, by rfl⟩) hS10 ?_
      try simp only [Act.put, List.setIfInBounds_toArray, List.set_cons_zero, List.set_cons_succ]
      refine wpAnyH_take (i := 29) (oi := { dst := some 66, op := .move (.tmp 65), type := 4, pos := "law.go:45", after := #[{ on := 28, ground := .data }, { on := 26, ground := .chain }, { on := 26, ground := .guard }], guard := some (26, true) }) (v := undef) rfl (by kernel_rfl) (by kernel_rfl) (by kernel_rfl) (fun _ _ _ h => h) (Or.inr ⟨by rfl, by rfl⟩) hS10 ?_
      try simp only [Act.put, List.setIfInBounds_toArray, List.set_cons_zero, List.set_cons_succ]
      refine wpAnyH_take (i := 30) (oi := { dst := some 67, op := .move (.tmp 8), type := 22, pos := "law.go:45", after := #[{ on := 29, ground := .guard }], guard := some (29, false) }) (v := undef) rfl (by kernel_rfl) (by kernel_rfl) (by kernel_rfl) (fun _ _ _ h => h) (Or.inr ⟨by rfl, by rfl⟩) hS10 ?_
      try simp only [Act.put, List.setIfInBounds_toArray, List.set_cons_zero, List.set_cons_succ]
      refine wpAnyH_take (i := 31) (oi := { dst := some 68, op := .call { callee := .builtin .len, args := #[.tmp 67], argTypes := #[22] }, type := 3, pos := "law.go:45", after := #[{ on := 30, ground := .data }, { on := 29, ground := .guard }], guard := some (29, false) }) (v := undef) rfl (by kernel_rfl) (by kernel_rfl) (by kernel_rfl) (fun _ _ _ h => h) (Or.inr ⟨by rfl, by rfl⟩) hS10 ?_
      try simp only [Act.put, List.setIfInBounds_toArray, List.set_cons_zero, List.set_cons_succ]
      refine wpAnyH_take (i := 32) (oi := { dst := some 69, op := .binOp .neq 3 (.tmp 68) (.const (.int .i64 0)) 3, type := 4, pos := "law.go:45", after := #[{ on := 31, ground := .data }, { on := 29, ground := .guard }], guard := some (29, false) }) (v := undef) rfl (by kernel_rfl) (by kernel_rfl) (by kernel_rfl) (fun _ _ _ h => h) (Or.inr ⟨by rfl, by rfl⟩) hS10 ?_
      try simp only [Act.put, List.setIfInBounds_toArray, List.set_cons_zero, List.set_cons_succ]
      refine wpAnyH_take (i := 33) (oi := { dst := some 70, op := .pick (.tmp 66) (.const (.bool true)) (.tmp 69), type := 4, pos := "law.go:45", after := #[{ on := 29, ground := .data }, { on := 32, ground := .data }, { on := 26, ground := .guard }], guard := some (26, true) }) (v := undef) rfl (by kernel_rfl) (by kernel_rfl) (by kernel_rfl) (fun _ _ _ h => h) (Or.inr ⟨by rfl, by rfl⟩) hS10 ?_
      try simp only [Act.put, List.setIfInBounds_toArray, List.set_cons_zero, List.set_cons_succ]
      refine wpAnyH_take (i := 34) (oi := { dst := some 71, op := .pick (.tmp 63) (.tmp 70) (.const (.bool false)), type := 4, pos := "law.go:45", after := #[{ on := 26, ground := .data }, { on := 33, ground := .data }, { on := 23, ground := .guard }], guard := some (23, false) }) (v := ?_) rfl (by kernel_rfl) (by kernel_rfl) (by kernel_rfl) (fun _ _ _ h => h) (Or.inl ⟨by rfl, ?_⟩) hS10 ?_
      rotate_left
      · (intro w' ⟨d0, d1, d2, d3, d4⟩; go_simp) <;> with_reducible rfl
      try simp only [Act.put, List.setIfInBounds_toArray, List.set_cons_zero, List.set_cons_succ]
      refine wpAnyH_take (i := 35) (oi := { dst := some 72, op := .pick (.tmp 60) (.const (.bool true)) (.tmp 71), type := 4, pos := "law.go:45", after := #[{ on := 23, ground := .data }, { on := 34, ground := .data }], guard := none }) (v := ?_) rfl (by kernel_rfl) (by kernel_rfl) (by kernel_rfl) (fun _ _ _ h => h) (Or.inl ⟨by rfl, ?_⟩) hS10 ?_
      rotate_left
      · (intro w' ⟨d0, d1, d2, d3, d4⟩; go_simp) <;> with_reducible rfl
      try simp only [Act.put, List.setIfInBounds_toArray, List.set_cons_zero, List.set_cons_succ]
      refine wpAnyH_done (by kernel_rfl) ?_ _
      go_wp2
      go_meet
      exact ⟨rfl, HX10, HS10⟩
    · subst hkk
      have hxd := HB5.out.keep (Below.refl _ _).drew
      have HXD := Lib.hid hxd
      have HSD := Lib.hid (HS5.out.below (Below.refl _ _).drew)
      refine wp_region_held_drew (S := fun V => V.cell? ⟨w.heap.size, 0, none⟩ = some (.int .i64 op) ∧ V.cell? ⟨w.heap.size, 1, none⟩ = some (.int .i64 a) ∧ V.cell? ⟨w.heap.size, 2, none⟩ = some (.int .i64 b) ∧ V.cell? ⟨w.heap.size, 3, none⟩ = some (.int .i64 k) ∧ V.cell? ⟨w.heap.size, 4, none⟩ = some (.slice LA ln lc)) (by kernel_rfl) ⟨hxd.c0, hxd.c1, hxd.c2, hxd.c3, hxd.c4⟩ (fun hS0 => ?_)
      clear hxd hBx5 HB5 HS5
      generalize w5.drew = V at *
      refine wpAnyH_take (i := 0) (oi := { dst := some 37, op := .load 25 (.tmp 4), type := 25, pos := "law.go:45", after := #[], guard := none }) (v := ?_) rfl (by kernel_rfl) (by kernel_rfl) (by kernel_rfl) (fun _ _ _ h => h) (Or.inl ⟨by rfl, ?_⟩) hS0 ?_
      rotate_left
      · (intro w' ⟨d0, d1, d2, d3, d4⟩; go_simp) <;> with_reducible rfl
      try simp only [Act.put, List.setIfInBounds_toArray, List.set_cons_zero, List.set_cons_succ]
      refine wpAnyH_take (i := 2) (oi := { dst := some 39, op := .move (.tmp 10), type := 4, pos := "law.go:45", after := #[], guard := none }) (v := ?_) rfl (by kernel_rfl) (by kernel_rfl) (by kernel_rfl) (fun _ _ _ h => h) (Or.inl ⟨by rfl, ?_⟩) hS0 ?_
      rotate_left
      · (intro w' ⟨d0, d1, d2, d3, d4⟩; go_simp) <;> with_reducible rfl
      try simp only [Act.put, List.setIfInBounds_toArray, List.set_cons_zero, List.set_cons_succ]
      refine wpAnyH_ready (rs := [1]) (by kernel_rfl) (by simp) ?_
      refine AllReadyH.cons (o := { dst := some 38, op := .call { callee := .value (.func 13), args := #[.tmp 37], argTypes := #[25] }, type := 4, pos := "law.go:45", after := #[{ on := 0, ground := .data }], guard := none }) rfl (fun K hK => ?_) AllReadyH.nil
      go_simp
      refine (HFM.out _ HXD.out.below).mono ?_
      rintro e w6 ⟨rfl, hb6⟩
      have hx6 := HXD.out.keep hb6
      have HX6 := Lib.hid hx6
      have HS6 := Lib.hid (HSD.out.below hb6)
      have hS6 : w6.cell? ⟨w.heap.size, 0, none⟩ = some (.int .i64 op) ∧ w6.cell? ⟨w.heap.size, 1, none⟩ = some (.int .i64 a) ∧ w6.cell? ⟨w.heap.size, 2, none⟩ = some (.int .i64 b) ∧ w6.cell? ⟨w.heap.size, 3, none⟩ = some (.int .i64 k) ∧ w6.cell? ⟨w.heap.size, 4, none⟩ = some (.slice LA ln lc) := ⟨hx6.c0, hx6.c1, hx6.c2, hx6.c3, hx6.c4⟩
      clear hx6 hb6 HXD HSD hS0 HFM
      go_wp2_with fail
      refine hK.out _ _ hS6 (fun _ => ?_)
      clear hK K
      try simp only [Act.put, List.setIfInBounds_toArray, List.set_cons_zero, List.set_cons_succ]
      refine wpAnyH_take (i := 3) (oi := { dst := some 40, op := .binOp .neq 4 (.tmp 38) (.tmp 39) 4, type := 4, pos := "law.go:45", after := #[{ on := 1, ground := .data }, { on := 2, ground := .data }], guard := none }) (v := ?_) rfl (by kernel_rfl) (by kernel_rfl) (by kernel_rfl) (fun _ _ _ h => h) (Or.inl ⟨by rfl, ?_⟩) hS6 ?_
      rotate_left
      · (intro w' ⟨d0, d1, d2, d3, d4⟩; go_simp) <;> with_reducible rfl
      try simp only [Act.put, List.setIfInBounds_toArray, List.set_cons_zero, List.set_cons_succ]
      refine wpAnyH_take (i := 4) (oi := { dst := some 41, op := .move (.tmp 40), type := 4, pos := "law.go:45", after := #[{ on := 3, ground := .data }, { on := 1, ground := .chain }], guard := none }) (v := ?_) rfl (by kernel_rfl) (by kernel_rfl) (by kernel_rfl) (fun _ _ _ h => h) (Or.inl ⟨by rfl, ?_⟩) hS6 ?_
      rotate_left
      · (intro w' ⟨d0, d1, d2, d3, d4⟩; go_simp) <;> with_reducible rfl
      try simp only [Act.put, List.setIfInBounds_toArray, List.set_cons_zero, List.set_cons_succ]
      refine wpAnyH_take (i := 5) (oi := { dst := some 42, op := .move (.tmp 10), type := 4, pos := "law.go:45", after := #[{ on := 4, ground := .guard }], guard := some (4, false) }) (v := ?_) rfl (by kernel_rfl) (by kernel_rfl) (by kernel_rfl) (fun _ _ _ h => h) (Or.inl ⟨by rfl, ?_⟩) hS6 ?_
      rotate_left
      · (intro w' ⟨d0, d1, d2, d3, d4⟩; go_simp) <;> with_reducible rfl
      try simp only [Act.put, List.setIfInBounds_toArray, List.set_cons_zero, List.set_cons_succ]
      refine wpAnyH_take (i := 6) (oi := { dst := some 43, op := .move (.tmp 9), type := 30, pos := "law.go:45", after := #[{ on := 4, ground := .guard }], guard := some (4, false) }) (v := ?_) rfl (by kernel_rfl) (by kernel_rfl) (by kernel_rfl) (fun _ _ _ h => h) (Or.inl ⟨by rfl, ?_⟩) hS6 ?_
      rotate_left
      · (intro w' ⟨d0, d1, d2, d3, d4⟩; go_simp) <;> with_reducible rfl
      try simp only [Act.put, List.setIfInBounds_toArray, List.set_cons_zero, List.set_cons_succ]
      refine wpAnyH_take (i := 7) (oi := { dst := some 44, op := .binOp .eql 30 (.tmp 43) (.const (.int .i64 0)) 30, type := 4, pos := "law.go:45", after := #[{ on := 6, ground := .data }, { on := 4, ground := .guard }], guard := some (4, false) }) (v := ?_) rfl (by kernel_rfl) (by kernel_rfl) (by kernel_rfl) (fun _ _ _ h => h) (Or.inl ⟨by rfl, ?_⟩) hS6 ?_
      rotate_left
      · (intro w' ⟨d0, d1, d2, d3, d4⟩; go_simp) <;> with_reducible rfl
      try simp only [Act.put, List.setIfInBounds_toArray, List.set_cons_zero, List.set_cons_succ]
      refine wpAnyH_take (i := 8) (oi := { dst := some 45, op := .binOp .neq 4 (.tmp 42) (.tmp 44) 4, type := 4, pos := "law.go:45", after := #[{ on := 5, ground := .data }, { on := 7, ground := .data }, { on := 4, ground := .guard }], guard := some (4, false) }) (v := ?_) rfl (by kernel_rfl) (by kernel_rfl) (by kernel_rfl) (fun _ _ _ h => h) (Or.inl ⟨by rfl, ?_⟩) hS6 ?_
      rotate_left
      · (intro w' ⟨d0, d1, d2, d3, d4⟩; go_simp) <;> with_reducible rfl
      try simp only [Act.put, List.setIfInBounds_toArray, List.set_cons_zero, List.set_cons_succ]
      refine wpAnyH_take (i := 9) (oi := { dst := some 46, op := .pick (.tmp 41) (.const (.bool true)) (.tmp 45), type := 4, pos := "law.go:45", after := #[{ on := 4, ground := .data }, { on := 8, ground := .data }], guard := none }) (v := ?_) rfl (by kernel_rfl) (by kernel_rfl) (by kernel_rfl) (fun _ _ _ h => h) (Or.inl ⟨by rfl, ?_⟩) hS6 ?_
      rotate_left
      · (intro w' ⟨d0, d1, d2, d3, d4⟩; go_simp) <;> with_reducible rfl
      try simp only [Act.put, List.setIfInBounds_toArray, List.set_cons_zero, List.set_cons_succ]
      refine wpAnyH_take (i := 10) (oi := { dst := some 47, op := .move (.tmp 46), type := 4, pos := "law.go:45", after := #[{ on := 9, ground := .data }, { on := 4, ground := .chain }], guard := none }) (v := ?_) rfl (by kernel_rfl) (by kernel_rfl) (by kernel_rfl) (fun _ _ _ h => h) (Or.inl ⟨by rfl, ?_⟩) hS6 ?_
      rotate_left
      · (intro w' ⟨d0, d1, d2, d3, d4⟩; go_simp) <;> with_reducible rfl
      try simp only [Act.put, List.setIfInBounds_toArray, List.set_cons_zero, List.set_cons_succ]
      refine wpAnyH_take (i := 11) (oi := { dst := some 48, op := .move (.tmp 10), type := 4, pos := "law.go:45", after := #[{ on := 10, ground := .guard }], guard := some (10, false) }) (v := ?_) rfl (by kernel_rfl) (by kernel_rfl) (by kernel_rfl) (fun _ _ _ h => h) (Or.inl ⟨by rfl, ?_⟩) hS6 ?_
      rotate_left
      · (intro w' ⟨d0, d1, d2, d3, d4⟩; go_simp) <;> with_reducible rfl
      try simp only [Act.put, List.setIfInBounds_toArray, List.set_cons_zero, List.set_cons_succ]
      refine wpAnyH_take (i := 12) (oi := { dst := some 49, op := .move (.tmp 48), type := 4, pos := "law.go:45", after := #[{ on := 11, ground := .data }, { on := 10, ground := .chain }, { on := 10, ground := .guard }], guard := some (10, false) }) (v := ?_) rfl (by kernel_rfl) (by kernel_rfl) (by kernel_rfl) (fun _ _ _ h => h) (Or.inl ⟨by rfl, ?_⟩) hS6 ?_
      rotate_left
      · (intro w' ⟨d0, d1, d2, d3, d4⟩; go_simp) <;> with_reducible rfl
      try simp only [Act.put, List.setIfInBounds_toArray, List.set_cons_zero, List.set_cons_succ]
      refine wpAnyH_take (i := 13) (oi := { dst := some 50, op := .move (.tmp 8), type := 22, pos := "law.go:45", after := #[{ on := 12, ground := .guard }], guard := some (12, true) }) (v := undef) rfl (by kernel_rfl) (by kernel_rfl) (by kernel_rfl) (fun _ _ _ h => h) (Or.inr ⟨by rfl, by rfl⟩) hS6 ?_
      try simp only [Act.put, List.setIfInBounds_toArray, List.set_cons_zero, List.set_cons_succ]
      refine wpAnyH_take (i := 14) (oi := { dst := some 51, op := .move (.tmp 0), type := 22, pos := "law.go:45", after := #[{ on := 12, ground := .guard }], guard := some (12, true) }) (v := undef) rfl (by kernel_rfl) (by kernel_rfl) (by kernel_rfl) (fun _ _ _ h => h) (Or.inr ⟨by rfl, by rfl⟩) hS6 ?_
      try simp only [Act.put, List.setIfInBounds_toArray, List.set_cons_zero, List.set_cons_succ]
      refine wpAnyH_take (i := 15) (oi := { dst := some 52, op := .call { callee := .value (.func 15), args := #[.tmp 51], argTypes := #[22] }, type := 22, pos := "law.go:45", after := #[{ on := 14, ground := .data }, { on := 12, ground := .chain }, { on := 12, ground := .guard }], guard := some (12, true) }) (v := undef) rfl (by kernel_rfl) (by kernel_rfl) (by kernel_rfl) (fun _ _ _ h => h) (Or.inr ⟨by rfl, by rfl⟩) hS6 ?_
      try simp only [Act.put, List.setIfInBounds_toArray, List.set_cons_zero, List.set_cons_succ]
      refine wpAnyH_take (i := 16) (oi := { dst := some 53, op := .load 25 (.tmp 4), type := 25, pos := "law.go:45", after := #[{ on := 12, ground := .guard }], guard := some (12, true) }) (v := undef) rfl (by kernel_rfl) (by kernel_rfl) (by kernel_rfl) (fun _ _ _ h => h) (Or.inr ⟨by rfl, by rfl⟩) hS6 ?_
      try simp only [Act.put, List.setIfInBounds_toArray, List.set_cons_zero, List.set_cons_succ]
      refine wpAnyH_take (i := 17) (oi := { dst := some 54, op := .call { callee := .value (.func 16), args := #[.tmp 53], argTypes := #[25] }, type := 22, pos := "law.go:45", after := #[{ on := 16, ground := .data }, { on := 15, ground := .chain }, { on := 12, ground := .guard }], guard := some (12, true) }) (v := undef) rfl (by kernel_rfl) (by kernel_rfl) (by kernel_rfl) (fun _ _ _ h => h) (Or.inr ⟨by rfl, by rfl⟩) hS6 ?_
      try simp only [Act.put, List.setIfInBounds_toArray, List.set_cons_zero, List.set_cons_succ]
      refine wpAnyH_take (i := 18) (oi := { dst := some 55, op := .call { callee := .builtin .append, args := #[.tmp 52, .tmp 54], argTypes := #[22, 22] }, type := 22, pos := "law.go:45", after := #[{ on := 15, ground := .data }, { on := 17, ground := .data }, { on := 17, ground := .chain }, { on := 12, ground := .guard }], guard := some (12, true) }) (v := undef) rfl (by kernel_rfl) (by kernel_rfl) (by kernel_rfl) (fun _ _ _ h => h) (Or.inr ⟨by rfl, by rfl⟩) hS6 ?_
      try simp only [Act.put, List.setIfInBounds_toArray, List.set_cons_zero, List.set_cons_succ]
      refine wpAnyH_take (i := 19) (oi := { dst := some 56, op := .call { callee := .value (.func 14), args := #[.tmp 50, .tmp 55], argTypes := #[22, 22] }, type := 4, pos := "law.go:45", after := #[{ on := 13, ground := .data }, { on := 18, ground := .data }, { on := 18, ground := .chain }, { on := 12, ground := .guard }], guard := some (12, true) }) (v := undef) rfl (by kernel_rfl) (by kernel_rfl) (by kernel_rfl) (fun _ _ _ h => h) (Or.inr ⟨by rfl, by rfl⟩) hS6 ?_
      try simp only [Act.put, List.setIfInBounds_toArray, List.set_cons_zero, List.set_cons_succ]
      refine wpAnyH_take (i := 20) (oi := { dst := some 57, op := .unOp .not 4 (.tmp 56), type := 4, pos := "law.go:45", after := #[{ on := 19, ground := .data }, { on := 12, ground := .guard }], guard := some (12, true) }) (v := undef) rfl (by kernel_rfl) (by kernel_rfl) (by kernel_rfl) (fun _ _ _ h => h) (Or.inr ⟨by rfl, by rfl⟩) hS6 ?_
      try simp only [Act.put, List.setIfInBounds_toArray, List.set_cons_zero, List.set_cons_succ]
      refine wpAnyH_take (i := 21) (oi := { dst := some 58, op := .pick (.tmp 49) (.tmp 57) (.const (.bool false)), type := 4, pos := "law.go:45", after := #[{ on := 12, ground := .data }, { on := 20, ground := .data }, { on := 10, ground := .guard }], guard := some (10, false) }) (v := ?_) rfl (by kernel_rfl) (by kernel_rfl) (by kernel_rfl) (fun _ _ _ h => h) (Or.inl ⟨by rfl, ?_⟩) hS6 ?_
      rotate_left
      · (intro w' ⟨d0, d1, d2, d3, d4⟩; go_simp) <;> with_reducible rfl
      try simp only [Act.put, List.setIfInBounds_toArray, List.set_cons_zero, List.set_cons_succ]
      refine wpAnyH_take (i := 22) (oi := { dst := some 59, op := .pick (.tmp 47) (.const (.bool true)) (.tmp 58), type := 4, pos := "law.go:45", after := #[{ on := 10, ground := .data }, { on := 21, ground := .data }], guard := none }) (v := ?_) rfl (by kernel_rfl) (by kernel_rfl) (by kernel_rfl) (fun _ _ _ h => h) (Or.inl ⟨by rfl, ?_⟩) hS6 ?_
      rotate_left
      · (intro w' ⟨d0, d1, d2, d3, d4⟩; go_simp) <;> with_reducible rfl
      try simp only [Act.put, List.setIfInBounds_toArray, List.set_cons_zero, List.set_cons_succ]
      refine wpAnyH_take (i := 23) (oi := { dst := some 60, op := .move (.tmp 59), type := 4, pos := "law.go:45", after := #[{ on := 22, ground := .data }, { on := 19, ground := .chain }], guard := none }) (v := ?_) rfl (by kernel_rfl) (by kernel_rfl) (by kernel_rfl) (fun _ _ _ h => h) (Or.inl ⟨by rfl, ?_⟩) hS6 ?_
      rotate_left
      · (intro w' ⟨d0, d1, d2, d3, d4⟩; go_simp) <;> with_reducible rfl
      try simp only [Act.put, List.setIfInBounds_toArray, List.set_cons_zero, List.set_cons_succ]
      refine wpAnyH_take (i := 24) (oi := { dst := some 61, op := .move (.tmp 10), type := 4, pos := "law.go:45", after := #[{ on := 23, ground := .guard }], guard := some (23, false) }) (v := ?_) rfl (by kernel_rfl) (by kernel_rfl) (by kernel_rfl) (fun _ _ _ h => h) (Or.inl ⟨by rfl, ?_⟩) hS6 ?_
      rotate_left
      · (intro w' ⟨d0, d1, d2, d3, d4⟩; go_simp) <;> with_reducible rfl
      try simp only [Act.put, List.setIfInBounds_toArray, List.set_cons_zero, List.set_cons_succ]
      refine wpAnyH_take (i := 25) (oi := { dst := some 62, op := .unOp .not 4 (.tmp 61), type := 4, pos := "law.go:45", after := #[{ on := 24, ground := .data }, { on := 23, ground := .guard }], guard := some (23, false) }) (v := ?_) rfl (by kernel_rfl) (by kernel_rfl) (by kernel_rfl) (fun _ _ _ h => h) (Or.inl ⟨by rfl, ?_⟩) hS6 ?_
      rotate_left
      · (intro w' ⟨d0, d1, d2, d3, d4⟩; go_simp) <;> with_reducible rfl
      try simp only [Act.put, List.setIfInBounds_toArray, List.set_cons_zero, List.set_cons_succ]
      refine wpAnyH_take (i := 26) (oi := { dst := some 63, op := .move (.tmp 62), type := 4, pos := "law.go:45", after := #[{ on := 25, ground := .data }, { on := 23, ground := .chain }, { on := 23, ground := .guard }], guard := some (23, false) }) (v := ?_) rfl (by kernel_rfl) (by kernel_rfl) (by kernel_rfl) (fun _ _ _ h => h) (Or.inl ⟨by rfl, ?_⟩) hS6 ?_
      rotate_left
      · (intro w' ⟨d0, d1, d2, d3, d4⟩; go_simp) <;> with_reducible rfl
      try simp only [Act.put, List.setIfInBounds_toArray, List.set_cons_zero, List.set_cons_succ]
      refine wpAnyH_take (i := 27) (oi := { dst := some 64, op := .move (.tmp 9), type := 30, pos := "law.go:45", after := #[{ on := 26, ground := .guard }], guard := some (26, true) }) (v := ?_) rfl (by kernel_rfl) (by kernel_rfl) (by kernel_rfl) (fun _ _ _ h => h) (Or.inl ⟨by rfl, ?_⟩) hS6 ?_
      rotate_left
      · (intro w' ⟨d0, d1, d2, d3, d4⟩; go_simp) <;> with_reducible rfl
      try simp only [Act.put, List.setIfInBounds_toArray, List.set_cons_zero, List.set_cons_succ]
      refine wpAnyH_take (i := 28) (oi := { dst := some 65, op := .binOp .neq 30 (.tmp 64) (.const (.int .i64 2)) 30, type := 4, pos := "law.go:45", after := #[{ on := 27, ground := .data }, { on := 26, ground := .guard }], guard := some (26, true) }) (v := ?_) rfl (by kernel_rfl) (by kernel_rfl) (by kernel_rfl) (fun _ _ _ h => h) (Or.inl ⟨by rfl, ?_⟩) hS6 ?_
      rotate_left
      · (intro w' ⟨d0, d1, d2, d3, d4⟩; go_simp) <;> with_reducible rfl
      try simp only [Act.put, List.setIfInBounds_toArray, List.set_cons_zero, List.set_cons_succ]
      refine wpAnyH_take (i := 29) (oi := { dst := some 66, op := .move (.tmp 65), type := 4, pos := "law.go:45", after := #[{ on := 28, ground := .data }, { on := 26, ground := .chain }, { on := 26, ground := .guard }], guard := some (26, true) }) (v := ?_) rfl (by kernel_rfl) (by kernel_rfl) (by kernel_rfl) (fun _ _ _ h => h) (Or.inl ⟨by rfl, ?_⟩) hS6 ?_
      rotate_left
      · (intro w' ⟨d0, d1, d2, d3, d4⟩; go_simp) <;> with_reducible rfl
      try simp only [Act.put, List.setIfInBounds_toArray, List.set_cons_zero, List.set_cons_succ]
      refine wpAnyH_take (i := 30) (oi := { dst := some 67, op := .move (.tmp 8), type := 22, pos := "law.go:45", after := #[{ on := 29, ground := .guard }], guard := some (29, false) }) (v := ?_) rfl (by kernel_rfl) (by kernel_rfl) (by kernel_rfl) (fun _ _ _ h => h) (Or.inl ⟨by rfl, ?_⟩) hS6 ?_
      rotate_left
      · (intro w' ⟨d0, d1, d2, d3, d4⟩; go_simp) <;> with_reducible rfl
      try simp only [Act.put, List.setIfInBounds_toArray, List.set_cons_zero, List.set_cons_succ]
      refine wpAnyH_take (i := 31) (oi := { dst := some 68, op := .call { callee := .builtin .len, args := #[.tmp 67], argTypes := #[22] }, type := 3, pos := "law.go:45", after := #[{ on := 30, ground := .data }, { on := 29, ground := .guard }], guard := some (29, false) }) (v := ?_) rfl (by kernel_rfl) (by kernel_rfl) (by kernel_rfl) (fun _ _ _ h => h) (Or.inl ⟨by rfl, ?_⟩) hS6 ?_
      rotate_left
      · (intro w' ⟨d0, d1, d2, d3, d4⟩; go_simp) <;> with_reducible rfl
      try simp only [Act.put, List.setIfInBounds_toArray, List.set_cons_zero, List.set_cons_succ]
      refine wpAnyH_take (i := 32) (oi := { dst := some 69, op := .binOp .neq 3 (.tmp 68) (.const (.int .i64 0)) 3, type := 4, pos := "law.go:45", after := #[{ on := 31, ground := .data }, { on := 29, ground := .guard }], guard := some (29, false) }) (v := ?_) rfl (by kernel_rfl) (by kernel_rfl) (by kernel_rfl) (fun _ _ _ h => h) (Or.inl ⟨by rfl, ?_⟩) hS6 ?_
      rotate_left
      · (intro w' ⟨d0, d1, d2, d3, d4⟩; go_simp) <;> with_reducible rfl
      try simp only [Act.put, List.setIfInBounds_toArray, List.set_cons_zero, List.set_cons_succ]
      refine wpAnyH_take (i := 33) (oi := { dst := some 70, op := .pick (.tmp 66) (.const (.bool true)) (.tmp 69), type := 4, pos := "law.go:45", after := #[{ on := 29, ground := .data }, { on := 32, ground := .data }, { on := 26, ground := .guard }], guard := some (26, true) }) (v := ?_) rfl (by kernel_rfl) (by kernel_rfl) (by kernel_rfl) (fun _ _ _ h => h) (Or.inl ⟨by rfl, ?_⟩) hS6 ?_
      rotate_left
      · (intro w' ⟨d0, d1, d2, d3, d4⟩; go_simp) <;> with_reducible rfl
      try simp only [Act.put, List.setIfInBounds_toArray, List.set_cons_zero, List.set_cons_succ]
      refine wpAnyH_take (i := 34) (oi := { dst := some 71, op := .pick (.tmp 63) (.tmp 70) (.const (.bool false)), type := 4, pos := "law.go:45", after := #[{ on := 26, ground := .data }, { on := 33, ground := .data }, { on := 23, ground := .guard }], guard := some (23, false) }) (v := ?_) rfl (by kernel_rfl) (by kernel_rfl) (by kernel_rfl) (fun _ _ _ h => h) (Or.inl ⟨by rfl, ?_⟩) hS6 ?_
      rotate_left
      · (intro w' ⟨d0, d1, d2, d3, d4⟩; go_simp) <;> with_reducible rfl
      try simp only [Act.put, List.setIfInBounds_toArray, List.set_cons_zero, List.set_cons_succ]
      refine wpAnyH_take (i := 35) (oi := { dst := some 72, op := .pick (.tmp 60) (.const (.bool true)) (.tmp 71), type := 4, pos := "law.go:45", after := #[{ on := 23, ground := .data }, { on := 34, ground := .data }], guard := none }) (v := ?_) rfl (by kernel_rfl) (by kernel_rfl) (by kernel_rfl) (fun _ _ _ h => h) (Or.inl ⟨by rfl, ?_⟩) hS6 ?_
      rotate_left
      · (intro w' ⟨d0, d1, d2, d3, d4⟩; go_simp) <;> with_reducible rfl
      try simp only [Act.put, List.setIfInBounds_toArray, List.set_cons_zero, List.set_cons_succ]
      refine wpAnyH_done (by kernel_rfl) ?_ _
      go_wp2
      go_meet
      exact ⟨rfl, HX6, HS6⟩
  case rest =>
    obtain ⟨rfl, HB6, HS6⟩ := hcut
    clear HB5 HS5 hBx5 HE1 HXB HFM HRB
    go_wp2_with fail
    refine (HPB.out _ _ _ HB6.out.below HS6.out).mono ?_
    rintro e w7 ⟨Ay, cy, rfl, howny, hBy, hny, hcy, hb7⟩
    have HB7 := Lib.hid (HB6.out.below.trans (hb7.mono HB6.out.below.size))
    have HS7 := Lib.hid (HS6.out.below hb7)
    clear howny hb7 HPB HB6 HS6
    go_wp2_with fail
    refine (HRC.out _ HB7.out).mono ?_
    rintro e w8 ⟨rfl, hb8⟩
    have HB8 := Lib.hid (HB7.out.trans (hb8.mono HB7.out.size))
    have HS8 := Lib.hid (HS7.out.below hb8)
    have hBy8 := (hBy.below hb8).more hb8.size
    clear hb8 HRC HB7 HS7 hBy
    rcases HE2.out with ⟨rfl, rfl, hfb, hkk⟩ | ⟨rfl, rfl, hkk⟩
    · subst hfb
      subst hkk
      have hkl : (l ++ ab).length = len + ja := by rw [List.length_append, HL.out, HAB.out (by trivial)]
      have HKL := Lib.hid hkl
      clear hkl
      go_wp2_with fail
      refine (HCL.out _ _ _ HB8.out HS8.out).mono ?_
      rintro e w9 ⟨rfl, hb9⟩
      have HB9 := Lib.hid (HB8.out.trans (hb9.mono HB8.out.size))
      have HS9 := Lib.hid (HS8.out.below hb9)
      have hBy9 := (hBy8.below hb9).more hb9.size
      clear hb9 HCL HB8 HS8 hBy8
      go_wp2_with fail
      refine (HCB.out _ HB9.out).mono ?_
      rintro e w10 ⟨A8, c8, rfl, hown8, hB8, hn8, hc8, hb10⟩
      have HB10 := Lib.hid (HB9.out.trans (hb10.mono HB9.out.size))
      have HW10 := Lib.hid hb10
      clear hB8 hb10 HCB
      go_wp2_with fail
      refine (HAL.out (by trivial) _ HB10.out).mono ?_
      rintro e w11 ⟨A9, c9, rfl, hown9, hB9, hn9, hc9, hb11⟩
      have HW11 := Lib.hid (HW10.out.trans (hb11.mono HW10.out.size))
      have hown11 := hown8.keep hb11 hown8.lt
      have hsz := HW11.out.size
      clear hown8 hown9 hb11 HW10 HB10 HAL
      go_wp2_with (at_builtin; refine app_guarded (by rfl) (.tmp 96) (.tmp 98) rfl w9.heap.size _ l rfl hown11 HLT.out A9 ab ja c9 _ (len + ja) (HAB.out (by trivial)) rfl hB9 hja HKL.out (by omega) hsz ?_; intro A10 c10 w12 hown12 hB12 hc12 hn12 hb12)
      have htot := HW11.out.trans hb12
      have HB12 := Lib.hid (HB9.out.trans (htot.mono HB9.out.size))
      have HS12 := Lib.hid (HS9.out.below htot)
      have hBy12 := (hBy9.below htot).more htot.size
      clear htot hown12 hb12 HW11 HB9 HS9 hBy9 hown11 hsz
      refine (psame_yes hBy12 hB12 HKL.out HKL.out (by omega)).mono ?_
      rintro e w13 ⟨rfl, q13, rfl⟩
      have HB13 := Lib.hid (below_drewN HB12.out q13)
      have HS13 := Lib.hid (HS12.out.below (below_drewN (Below.refl _ _) q13))
      clear HB12 HS12 hBy12 hB12
      go_wp2_with fail
      refine (HSA.out _ _ _ HB13.out HS13.out).mono ?_
      rintro e w14 ⟨rfl, hb14⟩
      have HB14 := Lib.hid (HB13.out.trans (hb14.mono HB13.out.size))
      clear hb14 HSA HB13 HS13
      go_wp2
      go_ret
      exact ⟨rfl, HB14.out⟩
    · subst hkk
      go_wp2_with fail
      refine (HCL.out _ _ _ HB8.out HS8.out).mono ?_
      rintro e w9 ⟨rfl, hb9⟩
      have HB9 := Lib.hid (HB8.out.trans (hb9.mono HB8.out.size))
      have HS9 := Lib.hid (HS8.out.below hb9)
      clear hb9 HCL HB8 HS8 hBy8
      go_wp2_with fail
      refine (HSA.out _ _ _ HB9.out HS9.out).mono ?_
      rintro e w14 ⟨rfl, hb14⟩
      have HB14 := Lib.hid (HB9.out.trans (hb14.mono HB9.out.size))
      clear hb14 HSA HB9 HS9
      go_wp2
      go_ret
      exact ⟨rfl, HB14.out⟩
end
end Go.Proofs.Ytdipgokbfjbgfaa.Ins
namespace Go.Proofs.Ytdipgokbfjbgfaa.Ins
open Go.RowKit Leb Typ

theorem puts_law {T : World → Prop} (D : Does T) (A A2 : Option Addr) (c c2 : Nat) (v : Value) (x : Ins) (xs : List Ins) (l : List Nat) (w : World) (hT : T w) (hs : Slc w A c l) (hv : InsV w v x) (hw : wide x) (hsli : Sli w A2 c2 xs) (hws : ∀ y ∈ xs, wide y) :
    Calls Try.prog 3 #[.slice A l.length c, v, .slice A2 xs.length c2] w fun e w' => e = .returned (.bool true) ∧ Below w.heap.size w w' := by
  have HA : Hid (∀ W, Below w.heap.size w W → Calls Try.prog 8 #[] W fun e w' => e = .returned (.bool true) ∧ Below W.heap.size W w') := Lib.hid fun W hW => awake_any D W (D.keep _ _ hT hW)
  have HS := Lib.hid (fun W (hW : Below w.heap.size w W) => short_any A2 xs c2 _ W ((hsli.below hW).ins))
  have hv' := hv
  obtain ⟨LA, lc, rfl, _, _, _⟩ := hv'
  obtain ⟨op, a, b, k, ls⟩ := x
  simp only at hv ⊢
  generalize hbb : shortB xs = bb at HS
  cases bb with
  | false => exact pl_short w A l.length c op a b k LA ls.length lc A2 xs.length c2 HA HS
  | true =>
    have hln := shortB_lens xs hbb
    by_cases hbig : (100 : Int) < (ls.length : Int)
    · exact pl_labs w A l.length c op a b k LA ls.length lc A2 xs.length c2 HA HS hbig
    by_cases hlong : (1000 : Int) < (l.length : Int)
    · exact pl_long w A l.length c op a b k LA ls.length lc A2 xs.length c2 HA HS hbig hlong
    have hshort : short xs := ⟨hln.1, fun y hy => ⟨hws y hy, hln.2 y hy⟩⟩
    have hl1 : ls.length ≤ 100 := by omega
    have hll : l.length ≤ 1000 := by omega
    have hls := hln.1
    obtain ⟨x, hx⟩ : ∃ x : Ins, x = ⟨op, a, b, k, ls⟩ := ⟨_, rfl⟩
    have hfx : formedB x = true → formedI x := (formedB_iff x).1
    have hcx : shutB xs = true → closedI xs := (shutB_iff xs).1
    obtain ⟨jb, hjb⟩ : ∃ jb, jb = if formedB x = true then (insBytes x).length else 1 := ⟨_, rfl⟩
    obtain ⟨ja, hja⟩ : ∃ ja, ja = if shutB xs = true then (allBytes xs).length else 1 := ⟨_, rfl⟩
    have hjb1 : formedB x = true → (insBytes x).length = jb := fun h => by rw [hjb, if_pos h]
    have hja1 : shutB xs = true → (allBytes xs).length = ja := fun h => by rw [hja, if_pos h]
    have bjb : 1 ≤ jb ∧ jb ≤ 5000 := by
      rw [hjb]
      split
      · rename_i h
        have := ins_len x (hfx h)
        have := insBytes_len x
        omega
      · omega
    have bja : 1 ≤ ja ∧ ja ≤ 12000000 := by
      rw [hja]
      split
      · rename_i h
        have h1 := closed_short 0 [] xs (hcx h)
        have h2 := (allBytes_le xs h1.2).1
        have h3 : 1 ≤ (allBytes xs).length := by
          have h4 := allBytes_len xs
          have h5 : 0 < xs.length := by
            rcases Nat.eq_zero_or_pos xs.length with h6 | h6
            · exfalso
              have h7 : xs = [] := List.eq_nil_of_length_eq_zero h6
              have h8 := hcx h
              rw [h7] at h8
              exact h8
            · exact h6
          omega
        omega
      · omega
    have he1 : formedB x = true ∧ (putRes (formedB x) l (insBytes x)).2 = 0 ∧ (putRes (formedB x) l (insBytes x)).1 = l ++ insBytes x ∧ (putRes (formedB x) l (insBytes x)).1.length = l.length + jb ∨ formedB x = false ∧ (putRes (formedB x) l (insBytes x)).2 = 2 ∧ (putRes (formedB x) l (insBytes x)).1.length = 0 := by
      cases h : formedB x with
      | true => exact .inl ⟨rfl, rfl, rfl, by rw [← hjb1 h]; simp [putRes]⟩
      | false => exact .inr ⟨rfl, rfl, rfl⟩
    have he2 : shutB xs = true ∧ (putRes (shutB xs) l (allBytes xs)).2 = 0 ∧ (putRes (shutB xs) l (allBytes xs)).1 = l ++ allBytes xs ∧ (putRes (shutB xs) l (allBytes xs)).1.length = l.length + ja ∨ shutB xs = false ∧ (putRes (shutB xs) l (allBytes xs)).2 = 2 ∧ (putRes (shutB xs) l (allBytes xs)).1.length = 0 := by
      cases h : shutB xs with
      | true => exact .inl ⟨rfl, rfl, rfl, by rw [← hja1 h]; simp [putRes]⟩
      | false => exact .inr ⟨rfl, rfl, rfl⟩
    rw [← hx] at hv hw
    have hxl : x.l.length ≤ 100 := by rw [hx]; exact hl1
    refine pl_walk w A l.length c op a b k LA ls.length lc A2 xs.length c2 HA l xs (formedB x) (shutB xs) (insBytes x) (allBytes xs) _ _ jb ja _ _ _ _ HS hbig hlong rfl hs.bytes.1 he1 bjb.1 bjb.2 hjb1 he2 bja.1 bja.2 hja1 ?_ ?_ ?_ ?_ ?_ ?_ ?_ ?_ ?_ ?_ ?_
    · exact Lib.hid fun W hW => rcopy_any A2 xs c2 W (hsli.below hW).ins (by omega) hln.2
    · exact Lib.hid fun W hW => D.put A l c _ _ x W ⟨(hs.bytes.below hW).more hW.size, hs.nil, hs.room⟩ hll (hv.below hW) hw hxl rfl (D.keep _ _ hT hW)
    · exact Lib.hid fun W hW => rformed_any _ x W (hv.below hW) hw hxl
    · exact Lib.hid fun W hW => D.formed _ x W (hv.below hW) hw hxl (D.keep _ _ hT hW)
    · exact Lib.hid fun W hW => gives_b (copy_any A l c W ((hs.bytes.below hW).more hW.size) hs.nil (by omega)) hs.bytes.1 rfl
    · exact Lib.hid fun hf W hW => rbytes_gives _ x W jb (hv.below hW) (hfx hf) (hjb1 hf)
    · exact Lib.hid fun W A7 c7 hW hs7 => D.putBody A A7 l xs c c7 _ W ⟨(hs.bytes.below hW).more hW.size, hs.nil, hs.room⟩ hll hs7 hshort rfl (D.keep _ _ hT hW)
    · exact Lib.hid fun W hW => rclosed_any A2 xs c2 W (hsli.below hW) hshort
    · exact Lib.hid fun W A7 c7 hW hs7 => D.closed A7 xs c7 W hs7 hshort (D.keep _ _ hT hW)
    · exact Lib.hid fun hc W hW => rall_any W A2 c2 ja xs (by omega) (hsli.below hW).ins (closed_short 0 [] xs (hcx hc)).2 (hja1 hc)
    · exact Lib.hid fun W A7 c7 hW hs7 => by
        have := sameAll_any A7 A2 xs xs c7 c2 W hs7.ins (hsli.below hW).ins (by omega) (by omega) (fun y hy => by have := hln.2 y hy; omega) (fun y hy => by have := hln.2 y hy; omega)
        simpa using this
end Go.Proofs.Ytdipgokbfjbgfaa.Ins
