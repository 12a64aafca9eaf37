/-
  typ.PutLimits, PutBlock: what each comes to. Conditions: the slice leads to bytes (at most 1000); numbers are of 64 bits.
-/
import Derived.Test.YthhdbjpimjkekaaTypOwnPut
namespace Go.Proofs.Ythhdbjpimjkekaa.Typ
open Go.RowKit Leb

structure B3 (w W : World) (x0 x1 x2 : Value) : Prop where
  below : Below w.heap.size w W
  size : w.heap.size < W.heap.size
  c0 : W.cell? ⟨w.heap.size, 0, none⟩ = some x0
  c1 : W.cell? ⟨w.heap.size, 1, none⟩ = some x1
  c2 : W.cell? ⟨w.heap.size, 2, none⟩ = some x2
theorem B3.keep {w W W' : World} {x0 x1 x2 : Value} (h : B3 w W x0 x1 x2) (h' : Below W.heap.size W W') : B3 w W' x0 x1 x2 := by
  have hs := h.size
  have C : ∀ p : Addr, p.block = w.heap.size → W'.cell? p = W.cell? p := fun p hp => h'.cell (by omega)
  exact ⟨h.below.trans (h'.mono h.below.size), Nat.lt_of_lt_of_le hs h'.size, (C _ rfl).trans h.c0, (C _ rfl).trans h.c1, (C _ rfl).trans h.c2⟩
theorem B3.drew {w W : World} {x0 x1 x2 : Value} (h : B3 w W x0 x1 x2) : B3 w W.drew x0 x1 x2 := ⟨h.below.drew, h.size, h.c0, h.c1, h.c2⟩
theorem b3_of (w : World) (x0 x1 x2 : Value) (t : TypeId) : B3 w (w.alloc (.cells #[x0, x1, x2] t)) x0 x1 x2 := by
  have hr := (MapKept.heap_alloc w (.cells #[x0, x1, x2] t)).1
  exact ⟨(Below.refl _ _).alloc (Nat.le_refl _) _, by simp, by simp only [World.cell?, hr]; rfl, by simp only [World.cell?, hr]; rfl, by simp only [World.cell?, hr]; rfl⟩
section
variable (A : Option Addr) (len c : Nat) (w : World) (a b : Int) (cap : Bool)
set_option maxHeartbeats 2000000 in
set_option maxRecDepth 100000 in
theorem oputl_no1 (H1 : Hid (∀ W, Calls Try.prog 39 #[.int .i64 a] W (Same1 W (.bool false)))) :
    Calls Try.prog 22 #[.slice A len c, limV a cap b] w (PutIs w [] 0 2) := by
  unfold limV
  have HB := Lib.hid (b3_of w (.int .i64 a) (.bool cap) (.int .i64 b) 34)
  go_enter Try.func22, Try.ntmps22
  go_wp2_with fail
  refine (H1.out _).mono ?_
  rintro e w1 ⟨rfl, rfl⟩
  go_wp2
  go_ret2
  exact putIs_nil HB.out.below
set_option maxHeartbeats 2000000 in
set_option maxRecDepth 100000 in
theorem oputl_no2 (H1 : Hid (∀ W, Calls Try.prog 39 #[.int .i64 a] W (Same1 W (.bool true)))) (H2 : Hid (∀ W, Calls Try.prog 39 #[.int .i64 b] W (Same1 W (.bool false)))) :
    Calls Try.prog 22 #[.slice A len c, limV a cap b] w (PutIs w [] 0 2) := by
  unfold limV
  have HB := Lib.hid (b3_of w (.int .i64 a) (.bool cap) (.int .i64 b) 34)
  go_enter Try.func22, Try.ntmps22
  go_wp2_with fail
  refine (H1.out _).mono ?_
  rintro e w1 ⟨rfl, rfl⟩
  go_wp2_with fail
  refine (H2.out _).mono ?_
  rintro e w1 ⟨rfl, rfl⟩
  go_wp2
  go_ret2
  exact putIs_nil HB.out.below
set_option maxHeartbeats 2000000 in
set_option maxRecDepth 100000 in
theorem oputl_no3 (H1 : Hid (∀ W, Calls Try.prog 39 #[.int .i64 a] W (Same1 W (.bool true)))) (H2 : Hid (∀ W, Calls Try.prog 39 #[.int .i64 b] W (Same1 W (.bool true)))) (hb : (b != 0) = true) :
    Calls Try.prog 22 #[.slice A len c, limV a false b] w (PutIs w [] 0 2) := by
  unfold limV
  have HB := Lib.hid (b3_of w (.int .i64 a) (.bool false) (.int .i64 b) 34)
  go_enter Try.func22, Try.ntmps22
  go_wp2_with fail
  refine (H1.out _).mono ?_
  rintro e w1 ⟨rfl, rfl⟩
  go_wp2_with fail
  refine (H2.out _).mono ?_
  rintro e w1 ⟨rfl, rfl⟩
  go_wp2
  go_ret2
  exact putIs_nil HB.out.below
end
set_option maxHeartbeats 2000000 in
set_option maxRecDepth 100000 in
theorem oputl_un (A : Option Addr) (len c : Nat) (w : World) (a b : Nat) (l : List Nat) (k k1 : Nat) (hk1 : len + 1 = k1) (ha : a < 4294967296) (H1 : Hid (∀ W, Calls Try.prog 39 #[.int .i64 (a : Int)] W (Same1 W (.bool true)))) (H2 : Hid (∀ W, Calls Try.prog 39 #[.int .i64 0] W (Same1 W (.bool true)))) (HG : Hid (∀ W, Below w.heap.size w W → Calls Try.prog 37 #[.slice A len c, .int .u8 0] W (GivesB W (l ++ [0]) (len + 1)))) (HP : Hid (∀ W B cb, Bytes W W.heap.size B (l ++ [0]) → (B = none → cb = 0) → Calls Try.prog 40 #[.slice B k1 cb, .int .u64 (a : Int)] W (GivesB W ((l ++ [0]) ++ putU a) k))) :
    Calls Try.prog 22 #[.slice A len c, limV (a : Int) false 0] w (PutIs w (l ++ limBytes a false b) k 0) := by
  unfold limV
  have HB := Lib.hid (b3_of w (.int .i64 (a : Int)) (.bool false) (.int .i64 0) 34)
  have hw : IntKind.u64.wrap (a : Int) = (a : Int) := by rw [IntKind.wrap_u64]; omega
  have HE : Hid (l ++ limBytes a false b = l ++ [0] ++ putU a) := Lib.hid (by simp [limBytes])
  rw [hk1] at HG
  clear ha hk1
  go_enter Try.func22, Try.ntmps22
  go_wp2_with fail
  refine (H1.out _).mono ?_
  rintro e w1 ⟨rfl, rfl⟩
  go_wp2_with fail
  refine (H2.out _).mono ?_
  rintro e w1 ⟨rfl, rfl⟩
  clear H1 H2
  go_wp2_with fail
  generalize w.alloc _ = W at *
  refine wp_region_held_drew (S := fun V => V.cell? ⟨w.heap.size, 0, none⟩ = some (.int .i64 (a : Int))) (by kernel_rfl) HB.out.c0 (fun hS => ?_)
  have HV := Lib.hid HB.out.drew
  clear HB
  generalize W.drew = V at *
  refine wpAnyH_take (i := 0) (oi := { dst := some 30, op := .move (.tmp 0), type := 22, pos := "typ.go:110", after := #[], guard := none }) (v := ?_) rfl (by kernel_rfl) (by kernel_rfl) (by kernel_rfl) (fun _ _ _ h => h) (Or.inl ⟨by rfl, ?_⟩) hS ?_
  rotate_left
  · (intro w' hS'; go_simp) <;> with_reducible rfl
  try simp only [Act.put, List.setIfInBounds_toArray, List.set_cons_zero, List.set_cons_succ]
  refine wpAnyH_take (i := 2) (oi := { dst := some 32, op := .fieldAddr 34 (.tmp 3) 0, type := 0, pos := "typ.go:110", after := #[], guard := none }) (v := ?_) rfl (by kernel_rfl) (by kernel_rfl) (by kernel_rfl) (fun _ _ _ h => h) (Or.inl ⟨by rfl, ?_⟩) hS ?_
  rotate_left
  · (intro w' hS'; go_simp) <;> with_reducible rfl
  try simp only [Act.put, List.setIfInBounds_toArray, List.set_cons_zero, List.set_cons_succ]
  refine wpAnyH_take (i := 3) (oi := { dst := some 33, op := .load 3 (.tmp 32), type := 3, pos := "typ.go:110", after := #[{ on := 2, ground := .data }], guard := none }) (v := ?_) rfl (by kernel_rfl) (by kernel_rfl) (by kernel_rfl) (fun _ _ _ h => h) (Or.inl ⟨by rfl, ?_⟩) hS ?_
  rotate_left
  · (intro w' hS'; go_simp) <;> with_reducible rfl
  try simp only [Act.put, List.setIfInBounds_toArray, List.set_cons_zero, List.set_cons_succ]
  refine wpAnyH_take (i := 4) (oi := { dst := some 34, op := .convert 3 67 (.tmp 33), type := 67, pos := "typ.go:110", after := #[{ on := 3, ground := .data }], guard := none }) (v := ?_) rfl (by kernel_rfl) (by kernel_rfl) (by kernel_rfl) (fun _ _ _ h => h) (Or.inl ⟨by rfl, ?_⟩) hS ?_
  rotate_left
  · (intro w' hS'; go_simp) <;> with_reducible rfl
  try simp only [Act.put, List.setIfInBounds_toArray, List.set_cons_zero, List.set_cons_succ]
  refine wpAnyH_ready (rs := [1]) (by kernel_rfl) (by simp) ?_
  refine AllReadyH.cons (o := { dst := some 31, op := .call { callee := .value (.func 37), args := #[.tmp 30, .const (.int .u8 0)], argTypes := #[22, 5] }, type := 22, pos := "typ.go:110", after := #[{ on := 0, ground := .data }], guard := none }) rfl (fun K hK => ?_) AllReadyH.nil
  go_simp
  refine (HG.out _ HV.out.below).mono ?_
  rintro e w1 ⟨B1, cb1, rfl, hown1, hB1, hz1, hc1, hb1⟩
  have HV1 := Lib.hid (HV.out.keep hb1)
  clear HG hown1 hb1 HV hS
  have hS := HV1.out.c0
  go_wp2_with fail
  refine hK.out _ _ hS (fun _ => ?_)
  clear hK K
  try simp only [Act.put, List.setIfInBounds_toArray, List.set_cons_zero, List.set_cons_succ]
  refine wpAnyH_ready (rs := [5]) (by kernel_rfl) (by simp) ?_
  refine AllReadyH.cons (o := { dst := some 35, op := .call { callee := .value (.func 40), args := #[.tmp 31, .tmp 34], argTypes := #[22, 67] }, type := 22, pos := "typ.go:110", after := #[{ on := 1, ground := .data }, { on := 4, ground := .data }, { on := 1, ground := .chain }], guard := none }) rfl (fun K hK => ?_) AllReadyH.nil
  go_simp
  refine (HP.out _ _ _ hB1 hz1).mono ?_
  rintro e w2 ⟨B2, cb2, rfl, hown2, hB2, hz2, hc2, hb2⟩
  have HV2 := Lib.hid (HV1.out.keep hb2)
  clear HP hB1 hz1 hc1 hb2 hS
  have hS := HV2.out.c0
  go_wp2_with fail
  refine hK.out _ _ hS (fun _ => ?_)
  clear hK K
  try simp only [Act.put, List.setIfInBounds_toArray, List.set_cons_zero, List.set_cons_succ]
  refine wpAnyH_ready (rs := [6]) (by kernel_rfl) (by simp) ?_
  refine AllReadyH.cons (o := { dst := some 4, op := .assign (.tmp 35), type := 22, pos := "typ.go:110", after := #[{ on := 5, ground := .data }, { on := 5, ground := .chain }, { on := 0, ground := .phase }, { on := 1, ground := .phase }, { on := 2, ground := .phase }, { on := 3, ground := .phase }, { on := 4, ground := .phase }, { on := 5, ground := .phase }], guard := none }) rfl (fun K hK => ?_) AllReadyH.nil
  go_simp
  refine hK.out _ _ hS (fun _ => ?_)
  clear hK K
  try simp only [Act.put, List.setIfInBounds_toArray, List.set_cons_zero, List.set_cons_succ]
  refine wpAnyH_ready (rs := [7]) (by kernel_rfl) (by simp) ?_
  refine AllReadyH.cons (o := { dst := some 5, op := .assign (.const (.int .i64 0)), type := 27, pos := "typ.go:110", after := #[{ on := 6, ground := .chain }, { on := 0, ground := .phase }, { on := 1, ground := .phase }, { on := 2, ground := .phase }, { on := 3, ground := .phase }, { on := 4, ground := .phase }, { on := 5, ground := .phase }, { on := 6, ground := .phase }], guard := none }) rfl (fun K hK => ?_) AllReadyH.nil
  go_simp
  refine hK.out _ _ hS (fun _ => ?_)
  clear hK K
  try simp only [Act.put, List.setIfInBounds_toArray, List.set_cons_zero, List.set_cons_succ]
  refine wpAnyH_done (by kernel_rfl) ?_ _
  go_wp2
  go_ret2
  rw [HE.out]
  exact putIs_of hown2 HV1.out.below.size hB2 hz2 hc2 HV2.out.below
set_option maxHeartbeats 2000000 in
set_option maxRecDepth 100000 in
theorem oputl_cap (A : Option Addr) (len c : Nat) (w : World) (a b : Nat) (l : List Nat) (k k1 k2 : Nat) (hk1 : len + 1 = k1) (ha : a < 4294967296) (hb : b < 4294967296) (H1 : Hid (∀ W, Calls Try.prog 39 #[.int .i64 (a : Int)] W (Same1 W (.bool true)))) (H2 : Hid (∀ W, Calls Try.prog 39 #[.int .i64 (b : Int)] W (Same1 W (.bool true)))) (HG : Hid (∀ W, Below w.heap.size w W → Calls Try.prog 37 #[.slice A len c, .int .u8 1] W (GivesB W (l ++ [1]) (len + 1)))) (HP : Hid (∀ W B cb, Bytes W W.heap.size B (l ++ [1]) → (B = none → cb = 0) → Calls Try.prog 40 #[.slice B k1 cb, .int .u64 (a : Int)] W (GivesB W ((l ++ [1]) ++ putU a) k2))) (HP2 : Hid (∀ W B cb, Bytes W W.heap.size B (l ++ [1] ++ putU a) → (B = none → cb = 0) → Calls Try.prog 40 #[.slice B k2 cb, .int .u64 (b : Int)] W (GivesB W ((l ++ [1] ++ putU a) ++ putU b) k))) :
    Calls Try.prog 22 #[.slice A len c, limV (a : Int) true (b : Int)] w (PutIs w (l ++ limBytes a true b) k 0) := by
  unfold limV
  have HB := Lib.hid (b3_of w (.int .i64 (a : Int)) (.bool true) (.int .i64 (b : Int)) 34)
  have hw : IntKind.u64.wrap (a : Int) = (a : Int) := by rw [IntKind.wrap_u64]; omega
  have hw2 : IntKind.u64.wrap (b : Int) = (b : Int) := by rw [IntKind.wrap_u64]; omega
  have HE : Hid (l ++ limBytes a true b = l ++ [1] ++ putU a ++ putU b) := Lib.hid (by simp [limBytes])
  rw [hk1] at HG
  clear ha hb hk1
  go_enter Try.func22, Try.ntmps22
  go_wp2_with fail
  refine (H1.out _).mono ?_
  rintro e w1 ⟨rfl, rfl⟩
  go_wp2_with fail
  refine (H2.out _).mono ?_
  rintro e w1 ⟨rfl, rfl⟩
  clear H1 H2
  go_wp2_with fail
  generalize w.alloc _ = W at *
  refine wp_region_held_drew (S := fun V => V.cell? ⟨w.heap.size, 0, none⟩ = some (.int .i64 (a : Int))) (by kernel_rfl) HB.out.c0 (fun hS => ?_)
  have HV := Lib.hid HB.out.drew
  clear HB
  generalize W.drew = V at *
  refine wpAnyH_take (i := 0) (oi := { dst := some 36, op := .move (.tmp 0), type := 22, pos := "typ.go:112", after := #[], guard := none }) (v := ?_) rfl (by kernel_rfl) (by kernel_rfl) (by kernel_rfl) (fun _ _ _ h => h) (Or.inl ⟨by rfl, ?_⟩) hS ?_
  rotate_left
  · (intro w' hS'; go_simp) <;> with_reducible rfl
  try simp only [Act.put, List.setIfInBounds_toArray, List.set_cons_zero, List.set_cons_succ]
  refine wpAnyH_take (i := 2) (oi := { dst := some 38, op := .fieldAddr 34 (.tmp 3) 0, type := 0, pos := "typ.go:112", after := #[], guard := none }) (v := ?_) rfl (by kernel_rfl) (by kernel_rfl) (by kernel_rfl) (fun _ _ _ h => h) (Or.inl ⟨by rfl, ?_⟩) hS ?_
  rotate_left
  · (intro w' hS'; go_simp) <;> with_reducible rfl
  try simp only [Act.put, List.setIfInBounds_toArray, List.set_cons_zero, List.set_cons_succ]
  refine wpAnyH_take (i := 3) (oi := { dst := some 39, op := .load 3 (.tmp 38), type := 3, pos := "typ.go:112", after := #[{ on := 2, ground := .data }], guard := none }) (v := ?_) rfl (by kernel_rfl) (by kernel_rfl) (by kernel_rfl) (fun _ _ _ h => h) (Or.inl ⟨by rfl, ?_⟩) hS ?_
  rotate_left
  · (intro w' hS'; go_simp) <;> with_reducible rfl
  try simp only [Act.put, List.setIfInBounds_toArray, List.set_cons_zero, List.set_cons_succ]
  refine wpAnyH_take (i := 4) (oi := { dst := some 40, op := .convert 3 67 (.tmp 39), type := 67, pos := "typ.go:112", after := #[{ on := 3, ground := .data }], guard := none }) (v := ?_) rfl (by kernel_rfl) (by kernel_rfl) (by kernel_rfl) (fun _ _ _ h => h) (Or.inl ⟨by rfl, ?_⟩) hS ?_
  rotate_left
  · (intro w' hS'; go_simp) <;> with_reducible rfl
  try simp only [Act.put, List.setIfInBounds_toArray, List.set_cons_zero, List.set_cons_succ]
  refine wpAnyH_ready (rs := [1]) (by kernel_rfl) (by simp) ?_
  refine AllReadyH.cons (o := { dst := some 37, op := .call { callee := .value (.func 37), args := #[.tmp 36, .const (.int .u8 1)], argTypes := #[22, 5] }, type := 22, pos := "typ.go:112", after := #[{ on := 0, ground := .data }], guard := none }) rfl (fun K hK => ?_) AllReadyH.nil
  go_simp
  refine (HG.out _ HV.out.below).mono ?_
  rintro e w1 ⟨B1, cb1, rfl, hown1, hB1, hz1, hc1, hb1⟩
  have HV1 := Lib.hid (HV.out.keep hb1)
  clear HG hown1 hb1 HV hS
  have hS := HV1.out.c0
  go_wp2_with fail
  refine hK.out _ _ hS (fun _ => ?_)
  clear hK K
  try simp only [Act.put, List.setIfInBounds_toArray, List.set_cons_zero, List.set_cons_succ]
  refine wpAnyH_ready (rs := [5]) (by kernel_rfl) (by simp) ?_
  refine AllReadyH.cons (o := { dst := some 41, op := .call { callee := .value (.func 40), args := #[.tmp 37, .tmp 40], argTypes := #[22, 67] }, type := 22, pos := "typ.go:112", after := #[{ on := 1, ground := .data }, { on := 4, ground := .data }, { on := 1, ground := .chain }], guard := none }) rfl (fun K hK => ?_) AllReadyH.nil
  go_simp
  refine (HP.out _ _ _ hB1 hz1).mono ?_
  rintro e w2 ⟨B2, cb2, rfl, hown2, hB2, hz2, hc2, hb2⟩
  have HV2 := Lib.hid (HV1.out.keep hb2)
  clear HP hB1 hz1 hc1 hb2 hS
  have hS := HV2.out.c0
  go_wp2_with fail
  refine hK.out _ _ hS (fun _ => ?_)
  clear hK K
  try simp only [Act.put, List.setIfInBounds_toArray, List.set_cons_zero, List.set_cons_succ]
  refine wpAnyH_ready (rs := [6]) (by kernel_rfl) (by simp) ?_
  refine AllReadyH.cons (o := { dst := some 6, op := .assign (.tmp 41), type := 22, pos := "typ.go:112", after := #[{ on := 5, ground := .data }, { on := 5, ground := .chain }, { on := 0, ground := .phase }, { on := 1, ground := .phase }, { on := 2, ground := .phase }, { on := 3, ground := .phase }, { on := 4, ground := .phase }, { on := 5, ground := .phase }], guard := none }) rfl (fun K hK => ?_) AllReadyH.nil
  go_simp
  refine hK.out _ _ hS (fun _ => ?_)
  clear hK K
  try simp only [Act.put, List.setIfInBounds_toArray, List.set_cons_zero, List.set_cons_succ]
  refine wpAnyH_done (by kernel_rfl) ?_ _
  have q2 := HV2.out.c2
  clear hown2 hS
  go_wp2_with fail
  refine (HP2.out _ _ _ hB2 hz2).mono ?_
  rintro e w3 ⟨B3, cb3, rfl, hown3, hB3, hz3, hc3, hb3⟩
  have HV3 := Lib.hid (HV2.out.keep hb3)
  clear HP2 hB2 hz2 hc2 hb3 q2
  go_wp2
  go_ret2
  rw [HE.out]
  exact putIs_of hown3 HV2.out.below.size hB3 hz3 hc3 HV3.out.below
theorem putU_b (A : Option Addr) (l : List Nat) (c n k k2 : Nat) (w : World) (hb : Bytes w w.heap.size A l) (hc : A = none → c = 0) (hl : l.length ≤ 70368744177664) (hn : n < 18446744073709551616) (hk : l.length = k) (hk2 : (l ++ putU n).length = k2) : Calls Try.prog 40 #[.slice A k c, .int .u64 (n : Int)] w (GivesB w (l ++ putU n) k2) := by
  subst hk
  exact (putU_any A l c n w hb hc hl hn).mono fun e w' h => gives_bb h (fun y hy => (List.mem_append.1 hy).elim (hb.1 y) (putU_lt n y)) hk2
theorem oputl_any (A : Option Addr) (l : List Nat) (c k : Nat) (a b : Int) (cap : Bool) (w : World) (hs : Slc w A c l) (hl : l.length ≤ 1000) (hk : (putRes (rightLim a cap b) l (limBytes a.toNat cap b.toNat)).1.length = k) :
    Calls Try.prog 22 #[.slice A l.length c, limV a cap b] w (PutIs w (putRes (rightLim a cap b) l (limBytes a.toNat cap b.toNat)).1 k (putRes (rightLim a cap b) l (limBytes a.toNat cap b.toNat)).2) := by
  have H1 := Lib.hid (fun W => isNum_any a W)
  have H2 := Lib.hid (fun W => isNum_any b W)
  by_cases ha : 0 ≤ a ∧ a ≤ 4294967295
  · rw [decide_eq_true ha] at H1
    by_cases hb : 0 ≤ b ∧ b ≤ 4294967295
    · rw [decide_eq_true hb] at H2
      obtain ⟨x, rfl⟩ : ∃ x : Nat, a = (x : Int) := ⟨a.toNat, by omega⟩
      obtain ⟨y, rfl⟩ : ∃ y : Nat, b = (y : Int) := ⟨b.toNat, by omega⟩
      simp only [Int.toNat_natCast] at hk ⊢
      have HG0 : Hid (∀ W, Below w.heap.size w W → Calls Try.prog 37 #[.slice A l.length c, .int .u8 0] W (GivesB W (l ++ [0]) (l.length + 1))) := Lib.hid fun W hW => begin_b A l c 0 _ W ((hs.bytes.below hW).more hW.size) hs.nil (by omega) (by omega) rfl
      have HG1 : Hid (∀ W, Below w.heap.size w W → Calls Try.prog 37 #[.slice A l.length c, .int .u8 1] W (GivesB W (l ++ [1]) (l.length + 1))) := Lib.hid fun W hW => begin_b A l c 1 _ W ((hs.bytes.below hW).more hW.size) hs.nil (by omega) (by omega) rfl
      have hpl := putU_len x
      cases cap with
      | true =>
        have hR : rightLim (x : Int) true (y : Int) = true := by unfold rightLim; simp; omega
        rw [hR] at hk ⊢
        have hk' : (l ++ limBytes x true y).length = k := hk
        refine oputl_cap A l.length c w x y l k _ ((l ++ [1] ++ putU x).length) rfl (by omega) (by omega) H1 H2 HG1 (Lib.hid fun W B cb h1 h2 => putU_b B _ cb x _ _ W h1 h2 (by simp; omega) (by omega) (by simp) rfl) (Lib.hid fun W B cb h1 h2 => putU_b B _ cb y _ _ W h1 h2 (by simp; omega) (by omega) rfl ?_)
        rw [← hk']; simp [limBytes]
      | false =>
        by_cases hy : y = 0
        · subst hy
          have hR : rightLim (x : Int) false ((0 : Nat) : Int) = true := by unfold rightLim; simp; omega
          rw [hR] at hk ⊢
          have hk' : (l ++ limBytes x false 0).length = k := hk
          refine oputl_un A l.length c w x 0 l k _ rfl (by omega) H1 H2 HG0 (Lib.hid fun W B cb h1 h2 => putU_b B _ cb x _ _ W h1 h2 (by simp; omega) (by omega) (by simp) ?_)
          rw [← hk']; simp [limBytes]
        · have hR : rightLim (x : Int) false (y : Int) = false := by unfold rightLim; simp; omega
          rw [hR] at hk ⊢
          obtain rfl : 0 = k := hk
          exact oputl_no3 A l.length c w x y H1 H2 (by simp; omega)
    · rw [decide_eq_false hb] at H2
      have hR : rightLim a cap b = false := by unfold rightLim; simp; omega
      rw [hR] at hk ⊢
      obtain rfl : 0 = k := hk
      exact oputl_no2 A l.length c w a b cap H1 H2
  · rw [decide_eq_false ha] at H1
    have hR : rightLim a cap b = false := by unfold rightLim; simp; omega
    rw [hR] at hk ⊢
    obtain rfl : 0 = k := hk
    exact oputl_no1 A l.length c w a b cap H1
section
variable (A : Option Addr) (l : List Nat) (len c k : Nat) (w : World)
set_option maxHeartbeats 2000000 in
set_option maxRecDepth 100000 in
theorem oputb_e (HP : Hid (Calls Try.prog 42 #[.slice A len c, .int .i64 (-64)] w (GivesB w (l ++ putS (-64)) k))) :
    Calls Try.prog 25 #[.slice A len c, .int .i64 (-64)] w (PutIs w (l ++ putS (-64)) k 0) := by
  go_enter Try.func25, Try.ntmps25
  go_wp2_with fail
  refine HP.out.mono ?_
  rintro e w1 ⟨B1, cb1, rfl, hown1, hB1, hz1, hc1, hb1⟩
  go_wp2
  go_ret2
  exact putIs_of hown1 (Nat.le_refl _) hB1 hz1 hc1 hb1
set_option maxHeartbeats 2000000 in
set_option maxRecDepth 100000 in
theorem oputb_a (HP : Hid (Calls Try.prog 42 #[.slice A len c, .int .i64 (-1)] w (GivesB w (l ++ putS (-1)) k))) :
    Calls Try.prog 25 #[.slice A len c, .int .i64 (-1)] w (PutIs w (l ++ putS (-1)) k 0) := by
  go_enter Try.func25, Try.ntmps25
  go_wp2_with fail
  refine HP.out.mono ?_
  rintro e w1 ⟨B1, cb1, rfl, hown1, hB1, hz1, hc1, hb1⟩
  go_wp2
  go_ret2
  exact putIs_of hown1 (Nat.le_refl _) hB1 hz1 hc1 hb1
set_option maxHeartbeats 2000000 in
set_option maxRecDepth 100000 in
theorem oputb_b (HP : Hid (Calls Try.prog 42 #[.slice A len c, .int .i64 (-2)] w (GivesB w (l ++ putS (-2)) k))) :
    Calls Try.prog 25 #[.slice A len c, .int .i64 (-2)] w (PutIs w (l ++ putS (-2)) k 0) := by
  go_enter Try.func25, Try.ntmps25
  go_wp2_with fail
  refine HP.out.mono ?_
  rintro e w1 ⟨B1, cb1, rfl, hown1, hB1, hz1, hc1, hb1⟩
  go_wp2
  go_ret2
  exact putIs_of hown1 (Nat.le_refl _) hB1 hz1 hc1 hb1
set_option maxHeartbeats 2000000 in
set_option maxRecDepth 100000 in
theorem oputb_yes (t : Int) (t64 : (t != -64) = true) (t1 : (t != -1) = true) (t2 : (t != -2) = true) (H1 : Hid (∀ W, Calls Try.prog 39 #[.int .i64 t] W (Same1 W (.bool true)))) (HP : Hid (Calls Try.prog 42 #[.slice A len c, .int .i64 t] w (GivesB w (l ++ putS t) k))) :
    Calls Try.prog 25 #[.slice A len c, .int .i64 t] w (PutIs w (l ++ putS t) k 0) := by
  go_enter Try.func25, Try.ntmps25
  go_wp2_with fail
  refine (H1.out _).mono ?_
  rintro e w1 ⟨rfl, rfl⟩
  go_wp2_with fail
  refine HP.out.mono ?_
  rintro e w1 ⟨B1, cb1, rfl, hown1, hB1, hz1, hc1, hb1⟩
  go_wp2
  go_ret2
  exact putIs_of hown1 (Nat.le_refl _) hB1 hz1 hc1 hb1
set_option maxHeartbeats 2000000 in
set_option maxRecDepth 100000 in
theorem oputb_no (t : Int) (t64 : (t != -64) = true) (t1 : (t != -1) = true) (t2 : (t != -2) = true) (H1 : Hid (∀ W, Calls Try.prog 39 #[.int .i64 t] W (Same1 W (.bool false)))) :
    Calls Try.prog 25 #[.slice A len c, .int .i64 t] w (PutIs w [] 0 2) := by
  go_enter Try.func25, Try.ntmps25
  go_wp2_with fail
  refine (H1.out _).mono ?_
  rintro e w1 ⟨rfl, rfl⟩
  go_wp2
  go_ret2
  exact putIs_nil (Below.refl _ _)
end
theorem oputb_any (A : Option Addr) (l : List Nat) (c k : Nat) (t : Int) (w : World) (hs : Slc w A c l) (hl : l.length ≤ 1000) (ht : I64 t) (hk : (putRes (rightBlock t) l (putS t)).1.length = k) :
    Calls Try.prog 25 #[.slice A l.length c, .int .i64 t] w (PutIs w (putRes (rightBlock t) l (putS t)).1 k (putRes (rightBlock t) l (putS t)).2) := by
  have HP : (l ++ putS t).length = k → Hid (Calls Try.prog 42 #[.slice A l.length c, .int .i64 t] w (GivesB w (l ++ putS t) k)) := fun h => Lib.hid ((putS_any A l c t w hs.bytes hs.nil (by omega) ht).mono fun e w' h' => gives_bb h' (fun y hy => (List.mem_append.1 hy).elim (hs.bytes.1 y) (putS_lt t y)) h)
  have H1 := Lib.hid (fun W => isNum_any t W)
  by_cases hR : rightBlock t = true
  · rw [hR] at hk ⊢
    have HP' := HP hk
    by_cases h1 : t = -64
    · subst h1; exact oputb_e A l l.length c k w HP'
    by_cases h2 : t = -1
    · subst h2; exact oputb_a A l l.length c k w HP'
    by_cases h3 : t = -2
    · subst h3; exact oputb_b A l l.length c k w HP'
    have hin : 0 ≤ t ∧ t ≤ 4294967295 := by
      have := of_decide_eq_true hR
      omega
    rw [decide_eq_true hin] at H1
    exact oputb_yes A l l.length c k w t (by simp [h1]) (by simp [h2]) (by simp [h3]) H1 HP'
  · have hR' : rightBlock t = false := by simpa using hR
    rw [hR'] at hk ⊢
    obtain rfl : 0 = k := hk
    have hno := of_decide_eq_false hR'
    rw [decide_eq_false (fun h => hno (by omega))] at H1
    exact oputb_no A l.length c w t (by simp; omega) (by simp; omega) (by simp; omega) H1
end Go.Proofs.Ythhdbjpimjkekaa.Typ
