/-
  CtxAnew: ctx.anew: a type in memory of its own; a context whose types grow. Conditions: the lists are not too long. (Written by wip/tools/genctxanew.py.)
-/
import Derived.Test.YtdcolpmmojiffaaQCtxAdd
import Derived.Deep.RegionHeld
namespace Go.Proofs.Ytdcolpmmojiffaa.Cx
open Go.RowKit Leb
open _root_.Go.Proofs.Ytdcolpmmojiffaa.Mod

theorem ones_i (xs : List Int) : ∀ u ∈ xs.flatMap iv, u.oneCell' = true := fun u hu => by
  obtain ⟨x, _, h⟩ := List.mem_flatMap.1 hu
  have : u = .int .i64 x := by simpa [iv] using h
  rw [this]; rfl
theorem src_ints {w : World} {ok : Nat → Prop} {A : Option Addr} {c : Nat} {xs : List Int} (h : Lst intR w ok A c xs) : Src w 1 A xs.length c (xs.flatMap iv) := src_lst (R := intR) iv (fun _ _ h => h) (fun _ => rfl) h
theorem src_lims {w : World} {ok : Nat → Prop} {A : Option Addr} {c : Nat} {xs : List GLim} (h : Lst limR w ok A c xs) : Src w 3 A xs.length c (xs.flatMap lv) := src_lst (R := limR) lv (fun _ _ h => limR_at.1 h) (fun _ => rfl) h
theorem own_ints {w : World} {base n : Nat} {A : Option Addr} {c : Nat} {xs : List Int} {ok : Nat → Prop} (h : w.ownsRow base 3 1 (.slice A n c) n (xs.flatMap iv)) (hn : n = xs.length) (ho : ∀ b, base ≤ b → ok b) : Lst intR w ok A c xs := own_lst iv (fun _ => rfl) h hn fun b hb => ho b (rowLt h b hb).1
def BoxF (b : Nat) (A1 A2 : Option Addr) (n1 n2 c1 c2 : Nat) (V : World) : Prop := V.cell? ⟨b, 0, none⟩ = some (.slice A1 n1 c1) ∧ V.cell? ⟨b, 1, none⟩ = some (.slice A2 n2 c2)
def AnewIs (w : World) (x : GFt) (en : Ending) (w' : World) : Prop := ∃ B1 d1 B2 d2, en = .returned (.agg #[.slice B1 x.1.length d1, .slice B2 x.2.length d2]) ∧ Lst intR w' (fun b => w.heap.size ≤ b) B1 d1 x.1 ∧ Lst intR w' (fun b => w.heap.size ≤ b) B2 d2 x.2 ∧ Below w.heap.size w w'
set_option maxRecDepth 100000 in
set_option maxHeartbeats 4000000 in
theorem anew_any (w : World) {ok : Nat → Prop} {A1 A2 : Option Addr} {c1 c2 : Nat} (x : GFt) (h1 : Lst intR w ok A1 c1 x.1) (h2 : Lst intR w ok A2 c2 x.2) (hn : x.1.length ≤ 100000 ∧ x.2.length ≤ 100000) : Calls Try.prog 38 #[.agg #[.slice A1 x.1.length c1, .slice A2 x.2.length c2]] w (AnewIs w x) := by
  obtain ⟨l1, l2⟩ := x
  have hb0 : Below w.heap.size w ((w.alloc (.cells #[.slice A1 l1.length c1, .slice A2 l2.length c2] 94)).alloc (.cells #[.slice none 0 0, .slice none 0 0] 94)).drew := (((Below.refl _ _).alloc (Nat.le_refl _) _).alloc (by simp) _).drew
  have hs0 : ((w.alloc (.cells #[.slice A1 l1.length c1, .slice A2 l2.length c2] 94)).alloc (.cells #[.slice none 0 0, .slice none 0 0] 94)).drew.heap.size = w.heap.size + 2 := by simp
  have hk0 : ((w.alloc (.cells #[.slice A1 l1.length c1, .slice A2 l2.length c2] 94)).alloc (.cells #[.slice none 0 0, .slice none 0 0] 94)).drew.heap[w.heap.size + 1]? = some (.cells #[.slice none 0 0, .slice none 0 0] 94 (0, 0)) := by
    have h := heap_alloc_new (w.alloc (.cells #[.slice A1 l1.length c1, .slice A2 l2.length c2] 94)) (.cells #[.slice none 0 0, .slice none 0 0] 94)
    have e : (w.alloc (.cells #[.slice A1 l1.length c1, .slice A2 l2.length c2] 94)).heap.size = w.heap.size + 1 := by simp
    rw [e] at h
    exact h
  have hS0 : ∀ v, Below (w.heap.size + 1) ((w.alloc (.cells #[.slice A1 l1.length c1, .slice A2 l2.length c2] 94)).alloc (.cells #[.slice none 0 0, .slice none 0 0] 94)).drew v → BoxF w.heap.size A1 A2 l1.length l2.length c1 c2 v := fun v hv => by
    refine ⟨?_, ?_⟩ <;> exact (hv.cell (by simp)).trans (by simp)
  have hl1 : l1.length ≤ 100000 := hn.1
  have hl2 : l2.length ≤ 100000 := hn.2
  go_enter Try.func38, Try.ntmps38
  go_wp2_with fail
  refine wp_region_held_drew (S := BoxF w.heap.size A1 A2 l1.length l2.length c1 c2) (by kernel_rfl) (hS0 _ (Below.refl _ _)) (fun hS => ?_)
  generalize ((w.alloc (.cells #[.slice A1 l1.length c1, .slice A2 l2.length c2] 94)).alloc (.cells #[.slice none 0 0, .slice none 0 0] 94)).drew = V at *
  have HB := Lib.hid hb0
  have H1 := Lib.hid (lst_below h1 hb0)
  have H2 := Lib.hid (lst_below h2 hb0)
  have HS := Lib.hid hS0
  have HK := Lib.hid hk0
  have HZ := Lib.hid hs0
  clear hb0 h1 h2 hS0 hn hk0 hs0
  refine wpAnyH_take (i := 0) (oi := { dst := some 3, op := .fieldAddr 94 (.tmp 1) 0, type := 0, pos := "gather.go:41", after := #[], guard := none }) (v := ?_) rfl (by kernel_rfl) (by kernel_rfl) (by kernel_rfl) (fun _ _ _ h => h) (Or.inl ⟨by rfl, ?_⟩) hS ?_
  rotate_left
  · (intro w' hS'; obtain ⟨s0, s1⟩ := hS'; go_simp) <;> with_reducible rfl
  try simp only [Act.put, List.setIfInBounds_toArray, List.set_cons_zero, List.set_cons_succ]
  refine wpAnyH_take (i := 1) (oi := { dst := some 4, op := .load 23 (.tmp 3), type := 23, pos := "gather.go:41", after := #[{ on := 0, ground := .data }], guard := none }) (v := ?_) rfl (by kernel_rfl) (by kernel_rfl) (by kernel_rfl) (fun _ _ _ h => h) (Or.inl ⟨by rfl, ?_⟩) hS ?_
  rotate_left
  · (intro w' hS'; obtain ⟨s0, s1⟩ := hS'; go_simp) <;> with_reducible rfl
  try simp only [Act.put, List.setIfInBounds_toArray, List.set_cons_zero, List.set_cons_succ]
  refine wpAnyH_take (i := 3) (oi := { dst := some 6, op := .fieldAddr 94 (.tmp 1) 1, type := 0, pos := "gather.go:41", after := #[], guard := none }) (v := ?_) rfl (by kernel_rfl) (by kernel_rfl) (by kernel_rfl) (fun _ _ _ h => h) (Or.inl ⟨by rfl, ?_⟩) hS ?_
  rotate_left
  · (intro w' hS'; obtain ⟨s0, s1⟩ := hS'; go_simp) <;> with_reducible rfl
  try simp only [Act.put, List.setIfInBounds_toArray, List.set_cons_zero, List.set_cons_succ]
  refine wpAnyH_take (i := 4) (oi := { dst := some 7, op := .load 23 (.tmp 6), type := 23, pos := "gather.go:41", after := #[{ on := 3, ground := .data }], guard := none }) (v := ?_) rfl (by kernel_rfl) (by kernel_rfl) (by kernel_rfl) (fun _ _ _ h => h) (Or.inl ⟨by rfl, ?_⟩) hS ?_
  rotate_left
  · (intro w' hS'; obtain ⟨s0, s1⟩ := hS'; go_simp) <;> with_reducible rfl
  try simp only [Act.put, List.setIfInBounds_toArray, List.set_cons_zero, List.set_cons_succ]
  refine wpAnyH_ready (rs := [2]) (by kernel_rfl) (by simp) ?_
  refine AllReadyH.cons (o := { dst := some 5, op := .call { callee := .builtin .append, args := #[.const (.slice none 0 0), .tmp 4], argTypes := #[23, 23] }, type := 23, pos := "gather.go:41", after := #[{ on := 1, ground := .data }], guard := none }) rfl (fun K' hK => ?_) (AllReadyH.nil)
  refine app_step tyI rfl (.const (.slice none 0 0)) (.tmp 4) rfl (A := none) (n := 0) (c := 0) rfl (own_nil V V.heap.size _ _) (X := A1) (m := l1.length) (cx := c1) rfl (src_ints H1.out) (ones_i _) (by omega) (Nat.le_refl _) ?_
  intro B1 d1 V1 ho1 hg1 _
  simp only [Nat.zero_add, List.nil_append] at ho1 ⊢
  have HB1 : Hid (Below V.heap.size V V1) := Lib.hid ((Below.refl _ _).grown hg1 (Nat.le_refl _) (fun k hk => by cases hk))
  have HO1 := Lib.hid ho1
  have HS1 := Lib.hid (HS.out V1 (HB1.out.mono (by have := HZ.out; omega)))
  clear ho1 hg1
  refine hK.out _ _ HS1.out (fun hS => ?_)
  clear hK K'
  try simp only [Act.put, List.setIfInBounds_toArray, List.set_cons_zero, List.set_cons_succ]
  refine wpAnyH_ready (rs := [5]) (by kernel_rfl) (by simp) ?_
  refine AllReadyH.cons (o := { dst := some 8, op := .call { callee := .builtin .append, args := #[.const (.slice none 0 0), .tmp 7], argTypes := #[23, 23] }, type := 23, pos := "gather.go:41", after := #[{ on := 4, ground := .data }, { on := 2, ground := .chain }], guard := none }) rfl (fun K' hK => ?_) (AllReadyH.nil)
  refine app_step tyI rfl (.const (.slice none 0 0)) (.tmp 7) rfl (A := none) (n := 0) (c := 0) rfl (own_nil V1 V.heap.size _ _) (X := A2) (m := l2.length) (cx := c2) rfl (src_ints (lst_below H2.out HB1.out)) (ones_i _) (by omega) HB1.out.size ?_
  intro B2 d2 V2 ho2 hg2 _
  simp only [Nat.zero_add, List.nil_append] at ho2 ⊢
  have HB2 : Hid (Below V1.heap.size V1 V2) := Lib.hid ((Below.refl _ _).grown hg2 (Nat.le_refl _) (fun k hk => by cases hk))
  have HO2 := Lib.hid ho2
  have HS2 := Lib.hid (HS.out V2 ((HB1.out.mono (by have := HZ.out; omega)).trans (HB2.out.mono (by have := HZ.out; have := HB1.out.size; omega))))
  have HK2 : Hid (V2.heap[w.heap.size + 1]? = some (.cells #[.slice none 0 0, .slice none 0 0] 94 (0, 0))) := Lib.hid ((HB2.out.block _ (by have := HZ.out; have := HB1.out.size; omega)).trans ((HB1.out.block _ (by have := HZ.out; omega)).trans HK.out))
  clear ho2 hg2
  have q0 : V2.cell? ⟨w.heap.size + 1, 0, none⟩ = some (.slice none 0 0) := by rw [blk_cell HK2.out]; rfl
  have q1 : V2.cell? ⟨w.heap.size + 1, 1, none⟩ = some (.slice none 0 0) := by rw [blk_cell HK2.out]; rfl
  have z0 := blk_free HK2.out 0
  have z1 := blk_free HK2.out 1
  refine hK.out _ _ HS2.out (fun hS => ?_)
  clear hK K'
  try simp only [Act.put, List.setIfInBounds_toArray, List.set_cons_zero, List.set_cons_succ]
  refine wpAnyH_take (i := 6) (oi := { dst := some 9, op := .build 94 #[(0, .tmp 5), (1, .tmp 8)], type := 94, pos := "gather.go:41", after := #[{ on := 2, ground := .data }, { on := 5, ground := .data }], guard := none }) (v := ?_) rfl (by kernel_rfl) (by kernel_rfl) (by kernel_rfl) (fun _ _ _ h => h) (Or.inl ⟨by rfl, ?_⟩) hS ?_
  rotate_left
  · (intro w' hS'; obtain ⟨s0, s1⟩ := hS'; go_simp) <;> with_reducible rfl
  try simp only [Act.put, List.setIfInBounds_toArray, List.set_cons_zero, List.set_cons_succ]
  refine wpAnyH_ready (rs := [7]) (by kernel_rfl) (by simp) ?_
  refine AllReadyH.cons (o := { dst := none, op := .store 94 (.tmp 2) (.tmp 9), type := 0, pos := "gather.go:41", after := #[{ on := 6, ground := .data }, { on := 5, ground := .chain }, { on := 0, ground := .phase }, { on := 1, ground := .phase }, { on := 2, ground := .phase }, { on := 3, ground := .phase }, { on := 4, ground := .phase }, { on := 5, ground := .phase }, { on := 6, ground := .phase }], guard := none }) rfl (fun K' hK => ?_) (AllReadyH.nil)
  go_simp
  refine hK.out _ _ ⟨(World.cell?_of_block (by rw [far_set (by simp), far_set (by simp)])).trans HS2.out.1, (World.cell?_of_block (by rw [far_set (by simp), far_set (by simp)])).trans HS2.out.2⟩ (fun hS => ?_)
  clear hK K'
  try simp only [Act.put, List.setIfInBounds_toArray, List.set_cons_zero, List.set_cons_succ]
  refine wpAnyH_done (by kernel_rfl) ?_ _
  have hx := blk_set (blk_set HK2.out 0 (.slice B1 l1.length d1)) 1 (.slice B2 l2.length d2)
  have r0 := blk_cell hx 0
  have r1 := blk_cell hx 1
  simp only [List.setIfInBounds_toArray, List.set_cons_zero, List.set_cons_succ, List.getElem?_toArray, List.getElem?_cons_zero, List.getElem?_cons_succ] at r0 r1
  go_wp2
  refine bodyPost_ret (v := .agg #[.slice B1 l1.length d1, .slice B2 l2.length d2]) (by simp [results, Try.results38, go_sem, r0, r1]) rfl ?_
  have hf : ∀ b, b ≠ w.heap.size + 1 → ((V2.setCell ⟨w.heap.size + 1, 0, none⟩ (.slice B1 l1.length d1)).setCell ⟨w.heap.size + 1, 1, none⟩ (.slice B2 l2.length d2)).heap[b]? = V2.heap[b]? := fun b hb => by rw [far_set (fun e => hb e.symm), far_set (fun e => hb e.symm)]
  have hv := HZ.out
  refine ⟨B1, d1, B2, d2, rfl, ?_, ?_, ?_⟩
  · refine (own_ints HO1.out rfl (ok := fun b => V.heap.size ≤ b) fun b hb => hb).keep fun b hb hlt => ⟨(hf b (by omega)).trans (HB2.out.block b hlt), by omega⟩
  · refine (own_ints HO2.out rfl (ok := fun b => V.heap.size ≤ b) fun b hb => hb).keep fun b hb hlt => ⟨hf b (by omega), by omega⟩
  · refine HB.out.trans ((HB1.out.mono HB.out.size).trans ((HB2.out.mono (Nat.le_trans HB.out.size HB1.out.size)).trans ⟨rfl, rfl, rfl, by simp, fun b hb => hf b (by omega)⟩))
end Go.Proofs.Ytdcolpmmojiffaa.Cx
