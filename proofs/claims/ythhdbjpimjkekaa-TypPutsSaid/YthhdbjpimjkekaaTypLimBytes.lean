/-
  trammelref05.LimitsBytes: the bytes of limits that may be put. Condition: both numbers are from 0 to 2^32 - 1.
-/
import Derived.Test.YthhdbjpimjkekaaTypLimits
import Derived.Test.YthhdbjpimjkekaaTypBytes
import Derived.Test.YthhdbjpimjkekaaLebRefPut
import Derived.Deep.RegionHeldLaw
namespace Go.Proofs.Ythhdbjpimjkekaa.Typ
open Go.RowKit Leb

/-- The bytes of limits. -/
def limBytes (a : Nat) (cap : Bool) (b : Nat) : List Nat := if cap then 1 :: (putU a ++ putU b) else 0 :: putU a
theorem app_step {w : World} {ops : Array Oper} {o : Oper} {a : Act} {K : Act → World → Prop} {Q : Exit → Act → World → Prop} {E : Prop} (hg : o.guard = none) (s x : Operand) (ho : o.op = .call { callee := .builtin .append, args := #[s, x], argTypes := #[22, 22] })
    (base : Nat) (v : Value) (l : List Nat) (hs : a.eval s = v) (hown : Own w base v l) (hb : ∀ y ∈ l, y < 256) (A : Option Addr) (l' : List Nat) (m c B k : Nat) (hm : l'.length = m) (hx : a.eval x = .slice A m c) (hr : Bytes w B A l') (h0 : 0 < m)
    (hk : (l ++ l').length = k) (hlen : k ≤ 140737488355328) (hbase : base ≤ w.heap.size)
    (h : ∀ A' c' w', Own w' base (.slice A' k c') (l ++ l') → Bytes w' w'.heap.size A' (l ++ l') → k ≤ c' → (A' = none → c' = 0) → Below base w w' → K (a.put o.dst (.slice A' k c')) w') :
    if Region.wanted o (yielded ops a.tmps) = true then Oper.wp Try.prog o a w K Q else E := by
  have hw : Region.wanted o (yielded ops a.tmps) = true := by simp [Region.wanted, hg]
  rw [if_pos hw]
  obtain ⟨i0, hi0, hz0, hz1, hz2⟩ := info_parts u8_info
  subst hm
  have hlen' : l.length + l'.length ≤ 140737488355328 := by simp at hk; omega
  obtain ⟨b, off, rfl, _, hcell⟩ := hr.2 h0
  refine wp_append_own w s x _ ho base 5 i0 (.int .u8 0) 1 1 Try.underlying22 hi0 hz0 hz1 hz2 rfl (by omega) v l.length (l.map bv) hs hown ⟨b, off, none⟩ l'.length c (l'.map bv) hx (by simp) ?_ (bv_oneCell l') (by simp only [maxLen]; omega) (by omega) hbase ?_
  · intro j u hu
    have hj : j < l'.length := by
      rcases Nat.lt_or_ge j l'.length with hj | hj
      · exact hj
      · rw [List.getElem?_eq_none (by simpa using hj)] at hu; cases hu
    have := hcell j hj
    rw [List.getElem?_map, List.getElem?_eq_getElem hj] at hu
    simp at hu
    subst hu
    by_cases h0 : j = 0
    · subst h0; simpa [Addr.add, bv] using this
    · simpa [Addr.add, h0, bv] using this
  · intro v' w' h1 h2 _
    have ho' : Own w' base v' (l ++ l') := by
      unfold Own
      rw [List.length_append, List.map_append]
      exact h1
    subst hk
    obtain ⟨A', c', hv, h3, h4, h5⟩ := ho'.bytes (fun y hy => (List.mem_append.1 hy).elim (hb y) (hr.1 y))
    subst hv
    exact h A' c' w' ho' h3 h4 h5 (below_own hown hbase h2)
theorem putU_lt (n : Nat) : ∀ x ∈ putU n, x < 256 := putUf_byte 9 n
set_option maxHeartbeats 1000000 in
set_option maxRecDepth 100000 in
theorem limBytes_0 (a k : Nat) (b : Int) (w : World) (ha : a < 4294967296) (hk : (putU a).length = k) (hk1 : 1 ≤ k) (hk9 : k ≤ 10) : Calls Try.prog 24 #[.agg #[.int .i64 (a : Int), .bool false, .int .i64 b]] w (Gives w (0 :: putU a)) := by
  have HP := Lib.hid (fun W => gives_b (rputU_any a W (by omega)) (putU_lt a) hk)
  have hw : IntKind.u64.wrap (a : Int) = (a : Int) := by rw [IntKind.wrap_u64]; omega
  have HK := Lib.hid hk
  clear ha hk
  go_enter Try.func24, Try.ntmps24
  go_wp2_with fail
  refine (HP.out _).mono ?_
  rintro e w1 ⟨A1, c1, rfl, hown1, hB1, hn1, hc1, hb1⟩
  have hbel : Below w.heap.size w w1 := (((Below.refl _ _).alloc (Nat.le_refl _) _).alloc (by simp) _).trans (hb1.mono (by simp; omega))
  have hl0 : Own w1 w.heap.size (.slice (some ⟨w.heap.size + 1, 0, none⟩) 1 1) [0] := by
    have := (own_lit (w.alloc (.cells #[.int .i64 (a : Int), .bool false, .int .i64 b] 34)) 0)
    have h2 := this.keep hb1 (fun k hk => by simp [Value.ownBlock] at hk; simp; omega)
    simp only [World.size_alloc] at h2
    exact own_from h2 (by omega)
  have hsz := hbel.size
  clear hb1 hown1
  go_wp2_with (at_builtin; refine app_slice rfl (.tmp 16) (.tmp 20) rfl w.heap.size _ [0] rfl hl0 (by simp) A1 (putU a) k c1 _ (k + 1) HK.out rfl hB1 hn1 (by simp [HK.out]) (by omega) hsz ?_; intro A2 c2 w2 hown2 hB2 hc2 hn2 hb2)
  go_ret
  exact ⟨_, rfl, hown2, hbel.trans hb2⟩
set_option maxHeartbeats 4000000 in
set_option maxRecDepth 100000 in
theorem limBytes_1 (a b k k2 : Nat) (w : World) (ha : a < 4294967296) (hb : b < 4294967296) (hk : (putU a).length = k) (hk1 : 1 ≤ k) (hk9 : k ≤ 10) (hk2 : (putU b).length = k2) (hk21 : 1 ≤ k2) (hk29 : k2 ≤ 10) : Calls Try.prog 24 #[.agg #[.int .i64 (a : Int), .bool true, .int .i64 (b : Int)]] w (Gives w (1 :: (putU a ++ putU b))) := by
  have HP := Lib.hid (fun W => gives_b (rputU_any a W (by omega)) (putU_lt a) hk)
  have HP2 := Lib.hid (fun W => gives_b (rputU_any b W (by omega)) (putU_lt b) hk2)
  have hw : IntKind.u64.wrap (a : Int) = (a : Int) := by rw [IntKind.wrap_u64]; omega
  have hw2 : IntKind.u64.wrap (b : Int) = (b : Int) := by rw [IntKind.wrap_u64]; omega
  have HK := Lib.hid hk
  have HK2 := Lib.hid hk2
  clear ha hk hb hk2
  have hbel0 : Below w.heap.size w (w.alloc (.cells #[.int .i64 (a : Int), .bool true, .int .i64 (b : Int)] 34)) := (Below.refl _ _).alloc (Nat.le_refl _) _
  have q0 : (w.alloc (.cells #[.int .i64 (a : Int), .bool true, .int .i64 (b : Int)] 34)).cell? ⟨w.heap.size, 0, none⟩ = some (.int .i64 (a : Int)) := by simp
  have q2 : (w.alloc (.cells #[.int .i64 (a : Int), .bool true, .int .i64 (b : Int)] 34)).cell? ⟨w.heap.size, 2, none⟩ = some (.int .i64 (b : Int)) := by simp
  have hsz0 : w.heap.size < (w.alloc (.cells #[.int .i64 (a : Int), .bool true, .int .i64 (b : Int)] 34)).heap.size := by simp
  go_enter Try.func24, Try.ntmps24
  go_wp2_with fail
  generalize w.alloc _ = W at *
  refine wp_region_held_drew (S := fun V => V.cell? ⟨w.heap.size, 0, none⟩ = some (.int .i64 (a : Int)) ∧ V.cell? ⟨w.heap.size, 2, none⟩ = some (.int .i64 (b : Int))) (by kernel_rfl) ⟨q0, q2⟩ (fun hS => ?_)
  have hbel1 : Below w.heap.size w W.drew := hbel0.drew
  have hsz1 : w.heap.size < W.drew.heap.size := hsz0
  clear q0 q2 hbel0 hsz0
  generalize W.drew = V at *
  refine wpAnyH_take (i := 1) (oi := { dst := some 6, op := .fieldAddr 34 (.tmp 1) 0, type := 0, pos := "ref.go:144", after := #[], guard := none }) (v := ?_) rfl (by kernel_rfl) (by kernel_rfl) (by kernel_rfl) (fun _ _ _ h => h) (Or.inl ⟨by rfl, ?_⟩) hS ?_
  rotate_left
  · (intro w' hS'; obtain ⟨hS1, hS2⟩ := hS'; go_simp) <;> with_reducible rfl
  simp only [Act.put, List.setIfInBounds_toArray, List.set_cons_zero, List.set_cons_succ]
  refine wpAnyH_take (i := 2) (oi := { dst := some 7, op := .load 3 (.tmp 6), type := 3, pos := "ref.go:144", after := #[{ on := 1, ground := .data }], guard := none }) (v := ?_) rfl (by kernel_rfl) (by kernel_rfl) (by kernel_rfl) (fun _ _ _ h => h) (Or.inl ⟨by rfl, ?_⟩) hS ?_
  rotate_left
  · (intro w' hS'; obtain ⟨hS1, hS2⟩ := hS'; go_simp) <;> with_reducible rfl
  simp only [Act.put, List.setIfInBounds_toArray, List.set_cons_zero, List.set_cons_succ]
  refine wpAnyH_take (i := 3) (oi := { dst := some 8, op := .convert 3 67 (.tmp 7), type := 67, pos := "ref.go:144", after := #[{ on := 2, ground := .data }], guard := none }) (v := ?_) rfl (by kernel_rfl) (by kernel_rfl) (by kernel_rfl) (fun _ _ _ h => h) (Or.inl ⟨by rfl, ?_⟩) hS ?_
  rotate_left
  · (intro w' hS'; obtain ⟨hS1, hS2⟩ := hS'; go_simp) <;> with_reducible rfl
  simp only [Act.put, List.setIfInBounds_toArray, List.set_cons_zero, List.set_cons_succ]
  refine wpAnyH_take (i := 6) (oi := { dst := some 11, op := .fieldAddr 34 (.tmp 1) 2, type := 0, pos := "ref.go:144", after := #[], guard := none }) (v := ?_) rfl (by kernel_rfl) (by kernel_rfl) (by kernel_rfl) (fun _ _ _ h => h) (Or.inl ⟨by rfl, ?_⟩) hS ?_
  rotate_left
  · (intro w' hS'; obtain ⟨hS1, hS2⟩ := hS'; go_simp) <;> with_reducible rfl
  simp only [Act.put, List.setIfInBounds_toArray, List.set_cons_zero, List.set_cons_succ]
  refine wpAnyH_take (i := 7) (oi := { dst := some 12, op := .load 3 (.tmp 11), type := 3, pos := "ref.go:144", after := #[{ on := 6, ground := .data }], guard := none }) (v := ?_) rfl (by kernel_rfl) (by kernel_rfl) (by kernel_rfl) (fun _ _ _ h => h) (Or.inl ⟨by rfl, ?_⟩) hS ?_
  rotate_left
  · (intro w' hS'; obtain ⟨hS1, hS2⟩ := hS'; go_simp) <;> with_reducible rfl
  simp only [Act.put, List.setIfInBounds_toArray, List.set_cons_zero, List.set_cons_succ]
  refine wpAnyH_take (i := 8) (oi := { dst := some 13, op := .convert 3 67 (.tmp 12), type := 67, pos := "ref.go:144", after := #[{ on := 7, ground := .data }], guard := none }) (v := ?_) rfl (by kernel_rfl) (by kernel_rfl) (by kernel_rfl) (fun _ _ _ h => h) (Or.inl ⟨by rfl, ?_⟩) hS ?_
  rotate_left
  · (intro w' hS'; obtain ⟨hS1, hS2⟩ := hS'; go_simp) <;> with_reducible rfl
  simp only [Act.put, List.setIfInBounds_toArray, List.set_cons_zero, List.set_cons_succ]
  have hkeep : ∀ U, Below V.heap.size V U → U.cell? ⟨w.heap.size, 0, none⟩ = some (.int .i64 (a : Int)) ∧ U.cell? ⟨w.heap.size, 2, none⟩ = some (.int .i64 (b : Int)) := fun U hU => ⟨(hU.cell (p := ⟨w.heap.size, 0, none⟩) hsz1).trans hS.1, (hU.cell (p := ⟨w.heap.size, 2, none⟩) hsz1).trans hS.2⟩
  have hlt1 : ∀ y ∈ [1] ++ putU a, y < 256 := fun y hy => (List.mem_append.1 hy).elim (fun h => by simp at h; omega) (putU_lt a y)
  refine wpAnyH_ready (rs := [0, 4]) (by kernel_rfl) (by simp) ?_
  refine AllReadyH.cons (o := { dst := some 5, op := .buildSlice 22 1 #[(0, .const (.int .u8 1))], type := 22, pos := "ref.go:144", after := #[], guard := none }) rfl (fun K hK => ?_) (AllReadyH.cons (o := { dst := some 9, op := .call { callee := .value (.func 41), args := #[.tmp 8], argTypes := #[67] }, type := 22, pos := "ref.go:144", after := #[{ on := 3, ground := .data }], guard := none }) rfl (fun K hK => ?_) AllReadyH.nil)
  · go_simp
    have hS1 : (V.alloc (.cells #[.int .u8 1] 5)).cell? ⟨w.heap.size, 0, none⟩ = some (.int .i64 (a : Int)) ∧ (V.alloc (.cells #[.int .u8 1] 5)).cell? ⟨w.heap.size, 2, none⟩ = some (.int .i64 (b : Int)) :=
      ⟨(World.cell?_alloc_lt _ _ _ hsz1).trans hS.1, (World.cell?_alloc_lt _ _ _ hsz1).trans hS.2⟩
    refine hK.out _ _ hS1 (fun _ => ?_)
    clear hK K
    try simp only [Act.put, List.setIfInBounds_toArray, List.set_cons_zero, List.set_cons_succ]
    refine wpAnyH_ready (rs := [4]) (by kernel_rfl) (by simp) ?_
    refine AllReadyH.cons (o := { dst := some 9, op := .call { callee := .value (.func 41), args := #[.tmp 8], argTypes := #[67] }, type := 22, pos := "ref.go:144", after := #[{ on := 3, ground := .data }], guard := none }) rfl (fun K hK => ?_) AllReadyH.nil
    go_simp
    refine (HP.out _).mono ?_
    rintro e w1 ⟨A1, c1, rfl, hown1, hB1, hn1, hc1, hb1⟩
    have hb0 : Below V.heap.size V (V.alloc (.cells #[.int .u8 1] 5)) := (Below.refl _ _).alloc (Nat.le_refl _) _
    have hbel2 := hb0.trans (hb1.mono hb0.size)
    have hl0 : Own w1 V.heap.size (.slice (some ⟨V.heap.size, 0, none⟩) 1 1) [1] := (own_lit V 1).keep hb1 (fun k hk => by simp [Value.ownBlock] at hk; simp; omega)
    have hS2 := hkeep w1 hbel2
    clear hown1 hb1 hb0
    go_wp2_with fail
    refine hK.out _ _ hS2 (fun _ => ?_)
    clear hK K
    try simp only [Act.put, List.setIfInBounds_toArray, List.set_cons_zero, List.set_cons_succ]
    refine wpAnyH_ready (rs := [5]) (by kernel_rfl) (by simp) ?_
    refine AllReadyH.cons (o := { dst := some 10, op := .call { callee := .builtin .append, args := #[.tmp 5, .tmp 9], argTypes := #[22, 22] }, type := 22, pos := "ref.go:144", after := #[{ on := 0, ground := .data }, { on := 4, ground := .data }, { on := 4, ground := .chain }], guard := none }) rfl (fun K hK => ?_) AllReadyH.nil
    refine app_step rfl (.tmp 5) (.tmp 9) rfl V.heap.size _ [1] rfl hl0 (by simp) A1 (putU a) k c1 _ (k + 1) HK.out rfl hB1 hk1 (by simp [HK.out]) (by omega) hbel2.size ?_
    intro A2 c2 w2 hown2 hB2 hc2 hn2 hb2
    have hbel3 := hbel2.trans hb2
    have hS3 := hkeep w2 hbel3
    refine hK.out _ _ hS3 (fun _ => ?_)
    clear hK K
    try simp only [Act.put, List.setIfInBounds_toArray, List.set_cons_zero, List.set_cons_succ]
    refine wpAnyH_ready (rs := [9]) (by kernel_rfl) (by simp) ?_
    refine AllReadyH.cons (o := { dst := some 14, op := .call { callee := .value (.func 41), args := #[.tmp 13], argTypes := #[67] }, type := 22, pos := "ref.go:144", after := #[{ on := 8, ground := .data }, { on := 5, ground := .chain }], guard := none }) rfl (fun K hK => ?_) AllReadyH.nil
    go_simp
    refine (HP2.out _).mono ?_
    rintro e w3 ⟨A3, c3, rfl, hown3, hB3, hn3, hc3, hb3⟩
    have hbel4 := hbel3.trans (hb3.mono hbel3.size)
    have hown4 := hown2.keep hb3 hown2.lt
    have hS4 := hkeep w3 hbel4
    go_wp2_with fail
    refine hK.out _ _ hS4 (fun _ => ?_)
    clear hK K
    try simp only [Act.put, List.setIfInBounds_toArray, List.set_cons_zero, List.set_cons_succ]
    refine wpAnyH_ready (rs := [10]) (by kernel_rfl) (by simp) ?_
    refine AllReadyH.cons (o := { dst := some 15, op := .call { callee := .builtin .append, args := #[.tmp 10, .tmp 14], argTypes := #[22, 22] }, type := 22, pos := "ref.go:144", after := #[{ on := 5, ground := .data }, { on := 9, ground := .data }, { on := 9, ground := .chain }], guard := none }) rfl (fun K hK => ?_) AllReadyH.nil
    refine app_step rfl (.tmp 10) (.tmp 14) rfl V.heap.size _ ([1] ++ putU a) rfl hown4 hlt1 A3 (putU b) k2 c3 _ (k + 1 + k2) HK2.out rfl hB3 hk21 (by simp [HK.out, HK2.out]; omega) (by omega) hbel4.size ?_
    intro A5 c5 w5 hown5 hB5 hc5 hn5 hb5
    have hbel5 := hbel4.trans hb5
    have hS5 := hkeep w5 hbel5
    refine hK.out _ _ hS5 (fun _ => ?_)
    clear hK K
    try simp only [Act.put, List.setIfInBounds_toArray, List.set_cons_zero, List.set_cons_succ]
    refine wpAnyH_ready (rs := [11]) (by kernel_rfl) (by simp) ?_
    refine AllReadyH.cons (o := { dst := some 2, op := .assign (.tmp 15), type := 22, pos := "ref.go:144", after := #[{ on := 10, ground := .data }, { on := 10, ground := .chain }, { on := 0, ground := .phase }, { on := 1, ground := .phase }, { on := 2, ground := .phase }, { on := 3, ground := .phase }, { on := 4, ground := .phase }, { on := 5, ground := .phase }, { on := 6, ground := .phase }, { on := 7, ground := .phase }, { on := 8, ground := .phase }, { on := 9, ground := .phase }, { on := 10, ground := .phase }], guard := none }) rfl (fun K hK => ?_) AllReadyH.nil
    go_simp
    refine hK.out _ _ hS5 (fun _ => ?_)
    clear hK K
    refine wpAnyH_done (by kernel_rfl) ?_ _
    go_wp2
    go_ret
    refine ⟨_, rfl, ?_, hbel1.trans (hbel5.mono hbel1.size)⟩
    have h := own_from hown5 hbel1.size
    rw [List.append_assoc] at h
    exact h
  · go_simp
    refine (HP.out _).mono ?_
    rintro e w0 ⟨A1, c1, rfl, hown1, hB0, hn1, hc1, hb1⟩
    have hS1 := hkeep w0 hb1
    go_wp2_with fail
    refine hK.out _ _ hS1 (fun _ => ?_)
    clear hK K
    try simp only [Act.put, List.setIfInBounds_toArray, List.set_cons_zero, List.set_cons_succ]
    refine wpAnyH_ready (rs := [0]) (by kernel_rfl) (by simp) ?_
    refine AllReadyH.cons (o := { dst := some 5, op := .buildSlice 22 1 #[(0, .const (.int .u8 1))], type := 22, pos := "ref.go:144", after := #[], guard := none }) rfl (fun K hK => ?_) AllReadyH.nil
    go_simp
    have hb0 : Below w0.heap.size w0 (w0.alloc (.cells #[.int .u8 1] 5)) := (Below.refl _ _).alloc (Nat.le_refl _) _
    have hbel2 := hb1.trans (hb0.mono hb1.size)
    have hl0 := own_from (own_lit w0 1) hb1.size
    have hB1 := hB0.below hb0
    have hS2 := hkeep _ hbel2
    clear hown1 hb1 hb0 hB0
    refine hK.out _ _ hS2 (fun _ => ?_)
    clear hK K
    try simp only [Act.put, List.setIfInBounds_toArray, List.set_cons_zero, List.set_cons_succ]
    generalize w0.alloc _ = w1 at *
    refine wpAnyH_ready (rs := [5]) (by kernel_rfl) (by simp) ?_
    refine AllReadyH.cons (o := { dst := some 10, op := .call { callee := .builtin .append, args := #[.tmp 5, .tmp 9], argTypes := #[22, 22] }, type := 22, pos := "ref.go:144", after := #[{ on := 0, ground := .data }, { on := 4, ground := .data }, { on := 4, ground := .chain }], guard := none }) rfl (fun K hK => ?_) AllReadyH.nil
    refine app_step rfl (.tmp 5) (.tmp 9) rfl V.heap.size _ [1] rfl hl0 (by simp) A1 (putU a) k c1 _ (k + 1) HK.out rfl hB1 hk1 (by simp [HK.out]) (by omega) hbel2.size ?_
    intro A2 c2 w2 hown2 hB2 hc2 hn2 hb2
    have hbel3 := hbel2.trans hb2
    have hS3 := hkeep w2 hbel3
    refine hK.out _ _ hS3 (fun _ => ?_)
    clear hK K
    try simp only [Act.put, List.setIfInBounds_toArray, List.set_cons_zero, List.set_cons_succ]
    refine wpAnyH_ready (rs := [9]) (by kernel_rfl) (by simp) ?_
    refine AllReadyH.cons (o := { dst := some 14, op := .call { callee := .value (.func 41), args := #[.tmp 13], argTypes := #[67] }, type := 22, pos := "ref.go:144", after := #[{ on := 8, ground := .data }, { on := 5, ground := .chain }], guard := none }) rfl (fun K hK => ?_) AllReadyH.nil
    go_simp
    refine (HP2.out _).mono ?_
    rintro e w3 ⟨A3, c3, rfl, hown3, hB3, hn3, hc3, hb3⟩
    have hbel4 := hbel3.trans (hb3.mono hbel3.size)
    have hown4 := hown2.keep hb3 hown2.lt
    have hS4 := hkeep w3 hbel4
    go_wp2_with fail
    refine hK.out _ _ hS4 (fun _ => ?_)
    clear hK K
    try simp only [Act.put, List.setIfInBounds_toArray, List.set_cons_zero, List.set_cons_succ]
    refine wpAnyH_ready (rs := [10]) (by kernel_rfl) (by simp) ?_
    refine AllReadyH.cons (o := { dst := some 15, op := .call { callee := .builtin .append, args := #[.tmp 10, .tmp 14], argTypes := #[22, 22] }, type := 22, pos := "ref.go:144", after := #[{ on := 5, ground := .data }, { on := 9, ground := .data }, { on := 9, ground := .chain }], guard := none }) rfl (fun K hK => ?_) AllReadyH.nil
    refine app_step rfl (.tmp 10) (.tmp 14) rfl V.heap.size _ ([1] ++ putU a) rfl hown4 hlt1 A3 (putU b) k2 c3 _ (k + 1 + k2) HK2.out rfl hB3 hk21 (by simp [HK.out, HK2.out]; omega) (by omega) hbel4.size ?_
    intro A5 c5 w5 hown5 hB5 hc5 hn5 hb5
    have hbel5 := hbel4.trans hb5
    have hS5 := hkeep w5 hbel5
    refine hK.out _ _ hS5 (fun _ => ?_)
    clear hK K
    try simp only [Act.put, List.setIfInBounds_toArray, List.set_cons_zero, List.set_cons_succ]
    refine wpAnyH_ready (rs := [11]) (by kernel_rfl) (by simp) ?_
    refine AllReadyH.cons (o := { dst := some 2, op := .assign (.tmp 15), type := 22, pos := "ref.go:144", after := #[{ on := 10, ground := .data }, { on := 10, ground := .chain }, { on := 0, ground := .phase }, { on := 1, ground := .phase }, { on := 2, ground := .phase }, { on := 3, ground := .phase }, { on := 4, ground := .phase }, { on := 5, ground := .phase }, { on := 6, ground := .phase }, { on := 7, ground := .phase }, { on := 8, ground := .phase }, { on := 9, ground := .phase }, { on := 10, ground := .phase }], guard := none }) rfl (fun K hK => ?_) AllReadyH.nil
    go_simp
    refine hK.out _ _ hS5 (fun _ => ?_)
    clear hK K
    refine wpAnyH_done (by kernel_rfl) ?_ _
    go_wp2
    go_ret
    refine ⟨_, rfl, ?_, hbel1.trans (hbel5.mono hbel1.size)⟩
    have h := own_from hown5 hbel1.size
    rw [List.append_assoc] at h
    exact h
theorem putU_len (n : Nat) : 1 ≤ (putU n).length ∧ (putU n).length ≤ 10 := by
  have := putUf_len 9 n
  unfold putU
  omega
theorem limBytes_any (a b : Nat) (cap : Bool) (w : World) (ha : a < 4294967296) (hb : b < 4294967296) : Calls Try.prog 24 #[limV a cap b] w (Gives w (limBytes a cap b)) := by
  cases cap with
  | false => exact limBytes_0 a _ b w ha rfl (putU_len a).1 (putU_len a).2
  | true => exact limBytes_1 a b _ _ w ha hb rfl (putU_len a).1 (putU_len a).2 rfl (putU_len b).1 (putU_len b).2
end Go.Proofs.Ythhdbjpimjkekaa.Typ
