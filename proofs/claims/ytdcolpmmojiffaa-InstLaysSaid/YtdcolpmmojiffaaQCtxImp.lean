/-
  CtxImp: ctx.addImport: an import added to a context under way. Conditions: its lists are not too long. (Written by wip/tools/genctximp.py.)
-/
import Derived.Test.YtdcolpmmojiffaaQCtxAdd
import Derived.Deep.RegionHeld
namespace Go.Proofs.Ytdcolpmmojiffaa.Cx
open Go.RowKit Leb
open _root_.Go.Proofs.Ytdcolpmmojiffaa.Mod

def AddIs (W : World) (L M : Nat) (okT : Nat → Prop) (p : Plc) (c : GCtx) (en : Ending) (W' : World) : Prop := en = .returned (.tuple #[]) ∧ (∃ p', CS W' L M okT p' c ∧ p'.A0 = p.A0 ∧ p'.d0 = p.d0) ∧ Below M W W'
def BoxI (b : Nat) (kind ty mn : Int) (cp : Bool) (mx : Int) (mu : Bool) (V : World) : Prop := V.cell? ⟨b, 2, none⟩ = some (.int .i64 kind) ∧ V.cell? ⟨b, 3, none⟩ = some (.int .i64 ty) ∧ V.cell? ⟨b, 4, none⟩ = some (.int .i64 mn) ∧ V.cell? ⟨b, 5, none⟩ = some (.bool cp) ∧ V.cell? ⟨b, 6, none⟩ = some (.int .i64 mx) ∧ V.cell? ⟨b, 7, none⟩ = some (.bool mu)
section
variable {W : World} {L M : Nat} {okT : Nat → Prop} {p : Plc} {c : GCtx} (md nm : ByteArray) (ty mn : Int) (cp : Bool) (mx : Int) (mu : Bool)
set_option maxRecDepth 100000 in
set_option maxHeartbeats 4000000 in
theorem addI_0 (h : CS W L M okT p c) (hn : c.funcs.length ≤ 1000) : Calls Try.prog 39 #[.pointer (some ⟨M, 0, none⟩), .agg #[.string md, .string nm, .int .i64 0, .int .i64 ty, .int .i64 mn, .bool cp, .int .i64 mx, .bool mu]] W (AddIs W L M okT p { c with funcs := c.funcs ++ [ty] }) := by
  have hb0 : Below W.heap.size W (W.alloc (.cells #[.string md, .string nm, .int .i64 0, .int .i64 ty, .int .i64 mn, .bool cp, .int .i64 mx, .bool mu] 72)).drew := ((Below.refl _ _).alloc (Nat.le_refl _) _).drew
  have hs0 : (W.alloc (.cells #[.string md, .string nm, .int .i64 0, .int .i64 ty, .int .i64 mn, .bool cp, .int .i64 mx, .bool mu] 72)).drew.heap.size = W.heap.size + 1 := by simp
  have hS0 : ∀ v, Below (W.heap.size + 1) (W.alloc (.cells #[.string md, .string nm, .int .i64 0, .int .i64 ty, .int .i64 mn, .bool cp, .int .i64 mx, .bool mu] 72)).drew v → BoxI W.heap.size 0 ty mn cp mx mu v := fun v hv => by
    refine ⟨?_, ?_, ?_, ?_, ?_, ?_⟩ <;> exact (hv.cell (by simp)).trans (by simp)
  go_enter Try.func39, Try.ntmps39
  go_wp2_with fail
  refine wp_region_held_drew (S := BoxI W.heap.size 0 ty mn cp mx mu) (by kernel_rfl) (hS0 _ (Below.refl _ _)) (fun hS => ?_)
  generalize (W.alloc (.cells #[.string md, .string nm, .int .i64 0, .int .i64 ty, .int .i64 mn, .bool cp, .int .i64 mx, .bool mu] 72)).drew = V at *
  have hC := Lib.hid (h.below hb0)
  have hMs : M < W.heap.size := by have := h.lt; have := h.hL; omega
  have hbA : Below V.heap.size V (V.alloc (.cells #[.int .i64 ty] 3)) := (Below.refl _ _).alloc (Nat.le_refl _) _
  have hCA := Lib.hid (hC.out.below hbA)
  have hc : V.cell? ⟨M, 1, none⟩ = some (.slice p.A1 c.funcs.length p.d1) := by rw [hC.out.cell]; rfl
  have hcA : (V.alloc (.cells #[.int .i64 ty] 3)).cell? ⟨M, 1, none⟩ = some (.slice p.A1 c.funcs.length p.d1) := by rw [hCA.out.cell]; rfl
  have hSA := hS0 _ (hbA.mono (by omega))
  have HOW : Hid (∀ b, (Value.slice p.A1 c.funcs.length p.d1).ownBlock = some b → b < W.heap.size) := Lib.hid fun b hb => (rowLt h.o1 b hb).2
  have HSG : Hid (∀ W2, (V.alloc (.cells #[.int .i64 ty] 3)).grownBy W2 (Value.slice p.A1 c.funcs.length p.d1).ownBlock → BoxI W.heap.size 0 ty mn cp mx mu W2 ∧ ∀ u, BoxI W.heap.size 0 ty mn cp mx mu (W2.setCell ⟨M, 1, none⟩ u)) := Lib.hid fun W2 hg => by
    have e : W2.heap[W.heap.size]? = (V.alloc (.cells #[.int .i64 ty] 3)).heap[W.heap.size]? := hg.block _ (by simp; omega) fun e => by have := HOW.out _ e.symm; omega
    refine ⟨?_, fun u => ?_⟩
    · unfold BoxI at hSA ⊢
      simp only [World.cell?_of_block (w := (V.alloc (.cells #[.int .i64 ty] 3))) (w' := W2) (a := ⟨W.heap.size, _, none⟩) e]
      exact hSA
    · have e2 : (W2.setCell ⟨M, 1, none⟩ u).heap[W.heap.size]? = (V.alloc (.cells #[.int .i64 ty] 3)).heap[W.heap.size]? := (far_set (by simp; omega) _).trans e
      unfold BoxI at hSA ⊢
      simp only [World.cell?_of_block (w := (V.alloc (.cells #[.int .i64 ty] 3))) (w' := W2.setCell ⟨M, 1, none⟩ u) (a := ⟨W.heap.size, _, none⟩) e2]
      exact hSA
  have HM := Lib.hid hMs
  have HB := Lib.hid hb0
  have HBA := Lib.hid hbA
  have HSA := Lib.hid hSA
  clear h hb0 hS0 hMs hSA hbA HOW hs0
  refine wpAnyH_take (i := 0) (oi := { dst := some 8, op := .move (.tmp 0), type := 97, pos := "gather.go:29", after := #[], guard := none }) (v := ?_) rfl (by kernel_rfl) (by kernel_rfl) (by kernel_rfl) (fun _ _ _ h => h) (Or.inl ⟨by rfl, ?_⟩) hS ?_
  rotate_left
  · (intro w' hS'; obtain ⟨s2, s3, s4, s5, s6, s7⟩ := hS'; go_simp) <;> with_reducible rfl
  try simp only [Act.put, List.setIfInBounds_toArray, List.set_cons_zero, List.set_cons_succ]
  refine wpAnyH_take (i := 1) (oi := { dst := some 9, op := .move (.tmp 0), type := 97, pos := "gather.go:29", after := #[], guard := none }) (v := ?_) rfl (by kernel_rfl) (by kernel_rfl) (by kernel_rfl) (fun _ _ _ h => h) (Or.inl ⟨by rfl, ?_⟩) hS ?_
  rotate_left
  · (intro w' hS'; obtain ⟨s2, s3, s4, s5, s6, s7⟩ := hS'; go_simp) <;> with_reducible rfl
  try simp only [Act.put, List.setIfInBounds_toArray, List.set_cons_zero, List.set_cons_succ]
  refine wpAnyH_take (i := 2) (oi := { dst := some 10, op := .nilCheck (.tmp 9), type := 0, pos := "gather.go:29", after := #[{ on := 1, ground := .data }], guard := none }) (v := ?_) rfl (by kernel_rfl) (by kernel_rfl) (by kernel_rfl) (fun _ _ _ h => h) (Or.inl ⟨by rfl, ?_⟩) hS ?_
  rotate_left
  · (intro w' hS'; obtain ⟨s2, s3, s4, s5, s6, s7⟩ := hS'; go_simp) <;> with_reducible rfl
  try simp only [Act.put, List.setIfInBounds_toArray, List.set_cons_zero, List.set_cons_succ]
  refine wpAnyH_take (i := 3) (oi := { dst := some 11, op := .fieldAddr 66 (.tmp 10) 1, type := 0, pos := "gather.go:29", after := #[{ on := 2, ground := .data }], guard := none }) (v := ?_) rfl (by kernel_rfl) (by kernel_rfl) (by kernel_rfl) (fun _ _ _ h => h) (Or.inl ⟨by rfl, ?_⟩) hS ?_
  rotate_left
  · (intro w' hS'; obtain ⟨s2, s3, s4, s5, s6, s7⟩ := hS'; go_simp) <;> with_reducible rfl
  try simp only [Act.put, List.setIfInBounds_toArray, List.set_cons_zero, List.set_cons_succ]
  refine wpAnyH_take (i := 5) (oi := { dst := some 13, op := .fieldAddr 72 (.tmp 3) 3, type := 0, pos := "gather.go:29", after := #[], guard := none }) (v := ?_) rfl (by kernel_rfl) (by kernel_rfl) (by kernel_rfl) (fun _ _ _ h => h) (Or.inl ⟨by rfl, ?_⟩) hS ?_
  rotate_left
  · (intro w' hS'; obtain ⟨s2, s3, s4, s5, s6, s7⟩ := hS'; go_simp) <;> with_reducible rfl
  try simp only [Act.put, List.setIfInBounds_toArray, List.set_cons_zero, List.set_cons_succ]
  refine wpAnyH_take (i := 6) (oi := { dst := some 14, op := .load 3 (.tmp 13), type := 3, pos := "gather.go:29", after := #[{ on := 5, ground := .data }], guard := none }) (v := ?_) rfl (by kernel_rfl) (by kernel_rfl) (by kernel_rfl) (fun _ _ _ h => h) (Or.inl ⟨by rfl, ?_⟩) hS ?_
  rotate_left
  · (intro w' hS'; obtain ⟨s2, s3, s4, s5, s6, s7⟩ := hS'; go_simp) <;> with_reducible rfl
  try simp only [Act.put, List.setIfInBounds_toArray, List.set_cons_zero, List.set_cons_succ]
  refine wpAnyH_ready (rs := [4, 7]) (by kernel_rfl) (by simp) ?_
  refine AllReadyH.cons (o := { dst := some 12, op := .load 23 (.tmp 11), type := 23, pos := "gather.go:29", after := #[{ on := 3, ground := .data }], guard := none }) rfl (fun K' hK => ?_) (AllReadyH.cons (o := { dst := some 15, op := .buildSlice 23 1 #[(0, .tmp 14)], type := 23, pos := "gather.go:29", after := #[{ on := 6, ground := .data }], guard := none }) rfl (fun K' hK => ?_) (AllReadyH.nil))
  · go_simp
    refine hK.out _ _ hS (fun hS => ?_)
    clear hK K'
    try simp only [Act.put, List.setIfInBounds_toArray, List.set_cons_zero, List.set_cons_succ]
    refine wpAnyH_ready (rs := [7]) (by kernel_rfl) (by simp) ?_
    refine AllReadyH.cons (o := { dst := some 15, op := .buildSlice 23 1 #[(0, .tmp 14)], type := 23, pos := "gather.go:29", after := #[{ on := 6, ground := .data }], guard := none }) rfl (fun K' hK => ?_) (AllReadyH.nil)
    go_simp
    refine hK.out _ _ HSA.out (fun hS => ?_)
    clear hK K'
    try simp only [Act.put, List.setIfInBounds_toArray, List.set_cons_zero, List.set_cons_succ]
    refine wpAnyH_ready (rs := [8]) (by kernel_rfl) (by simp) ?_
    refine AllReadyH.cons (o := { dst := some 16, op := .call { callee := .builtin .append, args := #[.tmp 12, .tmp 15], argTypes := #[23, 23] }, type := 23, pos := "gather.go:29", after := #[{ on := 4, ground := .data }, { on := 7, ground := .data }], guard := none }) rfl (fun K' hK => ?_) (AllReadyH.nil)
    refine app_step tyI rfl (.tmp 12) (.tmp 15) rfl (A := p.A1) (c := p.d1) rfl hCA.out.o1 (X := some ⟨V.heap.size, 0, none⟩) (m := 1) (cx := 1) rfl (src_new V #[.int .i64 ty] 3 _ rfl) (by simp [Value.oneCell']) (by omega) hCA.out.hL ?_
    intro A2 c2 W2 ho2 hg2 hob2
    have HP := Lib.hid (hCA.out.push1 (ys := [ty]) rfl (by simpa [iv] using ho2) hg2 hob2)
    have HS2 := Lib.hid (HSG.out W2 hg2)
    clear ho2 hg2 hob2 hc hcA
    have hc2 : W2.cell? ⟨M, 1, none⟩ = some (.slice p.A1 c.funcs.length p.d1) := by rw [HP.out.cell]; rfl
    have hz2 := HP.out.free
    refine hK.out _ _ HS2.out.1 (fun hS => ?_)
    clear hK K'
    try simp only [Act.put, List.setIfInBounds_toArray, List.set_cons_zero, List.set_cons_succ]
    refine wpAnyH_take (i := 9) (oi := { dst := some 17, op := .nilCheck (.tmp 8), type := 0, pos := "gather.go:29", after := #[{ on := 0, ground := .data }, { on := 0, ground := .phase }, { on := 1, ground := .phase }, { on := 2, ground := .phase }, { on := 3, ground := .phase }, { on := 4, ground := .phase }, { on := 5, ground := .phase }, { on := 6, ground := .phase }, { on := 7, ground := .phase }, { on := 8, ground := .phase }], guard := none }) (v := ?_) rfl (by kernel_rfl) (by kernel_rfl) (by kernel_rfl) (fun _ _ _ h => h) (Or.inl ⟨by rfl, ?_⟩) hS ?_
    rotate_left
    · (intro w' hS'; obtain ⟨s2, s3, s4, s5, s6, s7⟩ := hS'; go_simp) <;> with_reducible rfl
    try simp only [Act.put, List.setIfInBounds_toArray, List.set_cons_zero, List.set_cons_succ]
    refine wpAnyH_take (i := 10) (oi := { dst := some 18, op := .fieldAddr 66 (.tmp 17) 1, type := 0, pos := "gather.go:29", after := #[{ on := 9, ground := .data }, { on := 0, ground := .phase }, { on := 1, ground := .phase }, { on := 2, ground := .phase }, { on := 3, ground := .phase }, { on := 4, ground := .phase }, { on := 5, ground := .phase }, { on := 6, ground := .phase }, { on := 7, ground := .phase }, { on := 8, ground := .phase }], guard := none }) (v := ?_) rfl (by kernel_rfl) (by kernel_rfl) (by kernel_rfl) (fun _ _ _ h => h) (Or.inl ⟨by rfl, ?_⟩) hS ?_
    rotate_left
    · (intro w' hS'; obtain ⟨s2, s3, s4, s5, s6, s7⟩ := hS'; go_simp) <;> with_reducible rfl
    try simp only [Act.put, List.setIfInBounds_toArray, List.set_cons_zero, List.set_cons_succ]
    refine wpAnyH_ready (rs := [11]) (by kernel_rfl) (by simp) ?_
    refine AllReadyH.cons (o := { dst := none, op := .store 23 (.tmp 18) (.tmp 16), type := 0, pos := "gather.go:29", after := #[{ on := 10, ground := .data }, { on := 8, ground := .data }, { on := 8, ground := .chain }, { on := 0, ground := .phase }, { on := 1, ground := .phase }, { on := 2, ground := .phase }, { on := 3, ground := .phase }, { on := 4, ground := .phase }, { on := 5, ground := .phase }, { on := 6, ground := .phase }, { on := 7, ground := .phase }, { on := 8, ground := .phase }], guard := none }) rfl (fun K' hK => ?_) (AllReadyH.nil)
    go_simp
    refine hK.out _ _ (HS2.out.2 _) (fun hS => ?_)
    clear hK K'
    try simp only [Act.put, List.setIfInBounds_toArray, List.set_cons_zero, List.set_cons_succ]
    refine wpAnyH_done (by kernel_rfl) ?_ _
    go_wp2
    refine bodyPost_end (v := .tuple #[]) (by simp [results, Try.results39, go_sem]) rfl ?_
    exact ⟨rfl, HP.out.st, HB.out.mono (Nat.le_of_lt HM.out) |>.trans ((HBA.out.mono (Nat.le_trans (Nat.le_of_lt HM.out) HB.out.size)).trans HP.out.below)⟩
  · go_simp
    refine hK.out _ _ HSA.out (fun hS => ?_)
    clear hK K'
    try simp only [Act.put, List.setIfInBounds_toArray, List.set_cons_zero, List.set_cons_succ]
    refine wpAnyH_ready (rs := [4]) (by kernel_rfl) (by simp) ?_
    refine AllReadyH.cons (o := { dst := some 12, op := .load 23 (.tmp 11), type := 23, pos := "gather.go:29", after := #[{ on := 3, ground := .data }], guard := none }) rfl (fun K' hK => ?_) (AllReadyH.nil)
    go_simp
    refine hK.out _ _ hS (fun hS => ?_)
    clear hK K'
    try simp only [Act.put, List.setIfInBounds_toArray, List.set_cons_zero, List.set_cons_succ]
    refine wpAnyH_ready (rs := [8]) (by kernel_rfl) (by simp) ?_
    refine AllReadyH.cons (o := { dst := some 16, op := .call { callee := .builtin .append, args := #[.tmp 12, .tmp 15], argTypes := #[23, 23] }, type := 23, pos := "gather.go:29", after := #[{ on := 4, ground := .data }, { on := 7, ground := .data }], guard := none }) rfl (fun K' hK => ?_) (AllReadyH.nil)
    refine app_step tyI rfl (.tmp 12) (.tmp 15) rfl (A := p.A1) (c := p.d1) rfl hCA.out.o1 (X := some ⟨V.heap.size, 0, none⟩) (m := 1) (cx := 1) rfl (src_new V #[.int .i64 ty] 3 _ rfl) (by simp [Value.oneCell']) (by omega) hCA.out.hL ?_
    intro A2 c2 W2 ho2 hg2 hob2
    have HP := Lib.hid (hCA.out.push1 (ys := [ty]) rfl (by simpa [iv] using ho2) hg2 hob2)
    have HS2 := Lib.hid (HSG.out W2 hg2)
    clear ho2 hg2 hob2 hc hcA
    have hc2 : W2.cell? ⟨M, 1, none⟩ = some (.slice p.A1 c.funcs.length p.d1) := by rw [HP.out.cell]; rfl
    have hz2 := HP.out.free
    refine hK.out _ _ HS2.out.1 (fun hS => ?_)
    clear hK K'
    try simp only [Act.put, List.setIfInBounds_toArray, List.set_cons_zero, List.set_cons_succ]
    refine wpAnyH_take (i := 9) (oi := { dst := some 17, op := .nilCheck (.tmp 8), type := 0, pos := "gather.go:29", after := #[{ on := 0, ground := .data }, { on := 0, ground := .phase }, { on := 1, ground := .phase }, { on := 2, ground := .phase }, { on := 3, ground := .phase }, { on := 4, ground := .phase }, { on := 5, ground := .phase }, { on := 6, ground := .phase }, { on := 7, ground := .phase }, { on := 8, ground := .phase }], guard := none }) (v := ?_) rfl (by kernel_rfl) (by kernel_rfl) (by kernel_rfl) (fun _ _ _ h => h) (Or.inl ⟨by rfl, ?_⟩) hS ?_
    rotate_left
    · (intro w' hS'; obtain ⟨s2, s3, s4, s5, s6, s7⟩ := hS'; go_simp) <;> with_reducible rfl
    try simp only [Act.put, List.setIfInBounds_toArray, List.set_cons_zero, List.set_cons_succ]
    refine wpAnyH_take (i := 10) (oi := { dst := some 18, op := .fieldAddr 66 (.tmp 17) 1, type := 0, pos := "gather.go:29", after := #[{ on := 9, ground := .data }, { on := 0, ground := .phase }, { on := 1, ground := .phase }, { on := 2, ground := .phase }, { on := 3, ground := .phase }, { on := 4, ground := .phase }, { on := 5, ground := .phase }, { on := 6, ground := .phase }, { on := 7, ground := .phase }, { on := 8, ground := .phase }], guard := none }) (v := ?_) rfl (by kernel_rfl) (by kernel_rfl) (by kernel_rfl) (fun _ _ _ h => h) (Or.inl ⟨by rfl, ?_⟩) hS ?_
    rotate_left
    · (intro w' hS'; obtain ⟨s2, s3, s4, s5, s6, s7⟩ := hS'; go_simp) <;> with_reducible rfl
    try simp only [Act.put, List.setIfInBounds_toArray, List.set_cons_zero, List.set_cons_succ]
    refine wpAnyH_ready (rs := [11]) (by kernel_rfl) (by simp) ?_
    refine AllReadyH.cons (o := { dst := none, op := .store 23 (.tmp 18) (.tmp 16), type := 0, pos := "gather.go:29", after := #[{ on := 10, ground := .data }, { on := 8, ground := .data }, { on := 8, ground := .chain }, { on := 0, ground := .phase }, { on := 1, ground := .phase }, { on := 2, ground := .phase }, { on := 3, ground := .phase }, { on := 4, ground := .phase }, { on := 5, ground := .phase }, { on := 6, ground := .phase }, { on := 7, ground := .phase }, { on := 8, ground := .phase }], guard := none }) rfl (fun K' hK => ?_) (AllReadyH.nil)
    go_simp
    refine hK.out _ _ (HS2.out.2 _) (fun hS => ?_)
    clear hK K'
    try simp only [Act.put, List.setIfInBounds_toArray, List.set_cons_zero, List.set_cons_succ]
    refine wpAnyH_done (by kernel_rfl) ?_ _
    go_wp2
    refine bodyPost_end (v := .tuple #[]) (by simp [results, Try.results39, go_sem]) rfl ?_
    exact ⟨rfl, HP.out.st, HB.out.mono (Nat.le_of_lt HM.out) |>.trans ((HBA.out.mono (Nat.le_trans (Nat.le_of_lt HM.out) HB.out.size)).trans HP.out.below)⟩
set_option maxRecDepth 100000 in
set_option maxHeartbeats 4000000 in
theorem addI_1 (h : CS W L M okT p c) (hn : c.tabs.length ≤ 1000) : Calls Try.prog 39 #[.pointer (some ⟨M, 0, none⟩), .agg #[.string md, .string nm, .int .i64 1, .int .i64 ty, .int .i64 mn, .bool cp, .int .i64 mx, .bool mu]] W (AddIs W L M okT p { c with tabs := c.tabs ++ [(mn, cp, mx)] }) := by
  have hb0 : Below W.heap.size W (W.alloc (.cells #[.string md, .string nm, .int .i64 1, .int .i64 ty, .int .i64 mn, .bool cp, .int .i64 mx, .bool mu] 72)).drew := ((Below.refl _ _).alloc (Nat.le_refl _) _).drew
  have hs0 : (W.alloc (.cells #[.string md, .string nm, .int .i64 1, .int .i64 ty, .int .i64 mn, .bool cp, .int .i64 mx, .bool mu] 72)).drew.heap.size = W.heap.size + 1 := by simp
  have hS0 : ∀ v, Below (W.heap.size + 1) (W.alloc (.cells #[.string md, .string nm, .int .i64 1, .int .i64 ty, .int .i64 mn, .bool cp, .int .i64 mx, .bool mu] 72)).drew v → BoxI W.heap.size 1 ty mn cp mx mu v := fun v hv => by
    refine ⟨?_, ?_, ?_, ?_, ?_, ?_⟩ <;> exact (hv.cell (by simp)).trans (by simp)
  go_enter Try.func39, Try.ntmps39
  go_wp2_with fail
  refine wp_region_held_drew (S := BoxI W.heap.size 1 ty mn cp mx mu) (by kernel_rfl) (hS0 _ (Below.refl _ _)) (fun hS => ?_)
  generalize (W.alloc (.cells #[.string md, .string nm, .int .i64 1, .int .i64 ty, .int .i64 mn, .bool cp, .int .i64 mx, .bool mu] 72)).drew = V at *
  have hC := Lib.hid (h.below hb0)
  have hMs : M < W.heap.size := by have := h.lt; have := h.hL; omega
  have hbA : Below V.heap.size V (V.alloc (.cells #[.int .i64 mn, .bool cp, .int .i64 mx] 44)) := (Below.refl _ _).alloc (Nat.le_refl _) _
  have hCA := Lib.hid (hC.out.below hbA)
  have hc : V.cell? ⟨M, 3, none⟩ = some (.slice p.A3 c.tabs.length p.d3) := by rw [hC.out.cell]; rfl
  have hcA : (V.alloc (.cells #[.int .i64 mn, .bool cp, .int .i64 mx] 44)).cell? ⟨M, 3, none⟩ = some (.slice p.A3 c.tabs.length p.d3) := by rw [hCA.out.cell]; rfl
  have hSA := hS0 _ (hbA.mono (by omega))
  have HOW : Hid (∀ b, (Value.slice p.A3 c.tabs.length p.d3).ownBlock = some b → b < W.heap.size) := Lib.hid fun b hb => (rowLt h.o3 b hb).2
  have HSG : Hid (∀ W2, (V.alloc (.cells #[.int .i64 mn, .bool cp, .int .i64 mx] 44)).grownBy W2 (Value.slice p.A3 c.tabs.length p.d3).ownBlock → BoxI W.heap.size 1 ty mn cp mx mu W2 ∧ ∀ u, BoxI W.heap.size 1 ty mn cp mx mu (W2.setCell ⟨M, 3, none⟩ u)) := Lib.hid fun W2 hg => by
    have e : W2.heap[W.heap.size]? = (V.alloc (.cells #[.int .i64 mn, .bool cp, .int .i64 mx] 44)).heap[W.heap.size]? := hg.block _ (by simp; omega) fun e => by have := HOW.out _ e.symm; omega
    refine ⟨?_, fun u => ?_⟩
    · unfold BoxI at hSA ⊢
      simp only [World.cell?_of_block (w := (V.alloc (.cells #[.int .i64 mn, .bool cp, .int .i64 mx] 44))) (w' := W2) (a := ⟨W.heap.size, _, none⟩) e]
      exact hSA
    · have e2 : (W2.setCell ⟨M, 3, none⟩ u).heap[W.heap.size]? = (V.alloc (.cells #[.int .i64 mn, .bool cp, .int .i64 mx] 44)).heap[W.heap.size]? := (far_set (by simp; omega) _).trans e
      unfold BoxI at hSA ⊢
      simp only [World.cell?_of_block (w := (V.alloc (.cells #[.int .i64 mn, .bool cp, .int .i64 mx] 44))) (w' := W2.setCell ⟨M, 3, none⟩ u) (a := ⟨W.heap.size, _, none⟩) e2]
      exact hSA
  have HM := Lib.hid hMs
  have HB := Lib.hid hb0
  have HBA := Lib.hid hbA
  have HSA := Lib.hid hSA
  clear h hb0 hS0 hMs hSA hbA HOW hs0
  refine wpAnyH_take (i := 0) (oi := { dst := some 21, op := .move (.tmp 0), type := 97, pos := "gather.go:31", after := #[], guard := none }) (v := ?_) rfl (by kernel_rfl) (by kernel_rfl) (by kernel_rfl) (fun _ _ _ h => h) (Or.inl ⟨by rfl, ?_⟩) hS ?_
  rotate_left
  · (intro w' hS'; obtain ⟨s2, s3, s4, s5, s6, s7⟩ := hS'; go_simp) <;> with_reducible rfl
  try simp only [Act.put, List.setIfInBounds_toArray, List.set_cons_zero, List.set_cons_succ]
  refine wpAnyH_take (i := 1) (oi := { dst := some 22, op := .move (.tmp 0), type := 97, pos := "gather.go:31", after := #[], guard := none }) (v := ?_) rfl (by kernel_rfl) (by kernel_rfl) (by kernel_rfl) (fun _ _ _ h => h) (Or.inl ⟨by rfl, ?_⟩) hS ?_
  rotate_left
  · (intro w' hS'; obtain ⟨s2, s3, s4, s5, s6, s7⟩ := hS'; go_simp) <;> with_reducible rfl
  try simp only [Act.put, List.setIfInBounds_toArray, List.set_cons_zero, List.set_cons_succ]
  refine wpAnyH_take (i := 2) (oi := { dst := some 23, op := .nilCheck (.tmp 22), type := 0, pos := "gather.go:31", after := #[{ on := 1, ground := .data }], guard := none }) (v := ?_) rfl (by kernel_rfl) (by kernel_rfl) (by kernel_rfl) (fun _ _ _ h => h) (Or.inl ⟨by rfl, ?_⟩) hS ?_
  rotate_left
  · (intro w' hS'; obtain ⟨s2, s3, s4, s5, s6, s7⟩ := hS'; go_simp) <;> with_reducible rfl
  try simp only [Act.put, List.setIfInBounds_toArray, List.set_cons_zero, List.set_cons_succ]
  refine wpAnyH_take (i := 3) (oi := { dst := some 24, op := .fieldAddr 66 (.tmp 23) 3, type := 0, pos := "gather.go:31", after := #[{ on := 2, ground := .data }], guard := none }) (v := ?_) rfl (by kernel_rfl) (by kernel_rfl) (by kernel_rfl) (fun _ _ _ h => h) (Or.inl ⟨by rfl, ?_⟩) hS ?_
  rotate_left
  · (intro w' hS'; obtain ⟨s2, s3, s4, s5, s6, s7⟩ := hS'; go_simp) <;> with_reducible rfl
  try simp only [Act.put, List.setIfInBounds_toArray, List.set_cons_zero, List.set_cons_succ]
  refine wpAnyH_take (i := 5) (oi := { dst := some 26, op := .fieldAddr 72 (.tmp 3) 4, type := 0, pos := "gather.go:31", after := #[], guard := none }) (v := ?_) rfl (by kernel_rfl) (by kernel_rfl) (by kernel_rfl) (fun _ _ _ h => h) (Or.inl ⟨by rfl, ?_⟩) hS ?_
  rotate_left
  · (intro w' hS'; obtain ⟨s2, s3, s4, s5, s6, s7⟩ := hS'; go_simp) <;> with_reducible rfl
  try simp only [Act.put, List.setIfInBounds_toArray, List.set_cons_zero, List.set_cons_succ]
  refine wpAnyH_take (i := 6) (oi := { dst := some 27, op := .load 44 (.tmp 26), type := 44, pos := "gather.go:31", after := #[{ on := 5, ground := .data }], guard := none }) (v := ?_) rfl (by kernel_rfl) (by kernel_rfl) (by kernel_rfl) (fun _ _ _ h => h) (Or.inl ⟨by rfl, ?_⟩) hS ?_
  rotate_left
  · (intro w' hS'; obtain ⟨s2, s3, s4, s5, s6, s7⟩ := hS'; go_simp) <;> with_reducible rfl
  try simp only [Act.put, List.setIfInBounds_toArray, List.set_cons_zero, List.set_cons_succ]
  refine wpAnyH_ready (rs := [4, 7]) (by kernel_rfl) (by simp) ?_
  refine AllReadyH.cons (o := { dst := some 25, op := .load 45 (.tmp 24), type := 45, pos := "gather.go:31", after := #[{ on := 3, ground := .data }], guard := none }) rfl (fun K' hK => ?_) (AllReadyH.cons (o := { dst := some 28, op := .buildSlice 45 1 #[(0, .tmp 27)], type := 45, pos := "gather.go:31", after := #[{ on := 6, ground := .data }], guard := none }) rfl (fun K' hK => ?_) (AllReadyH.nil))
  · go_simp
    refine hK.out _ _ hS (fun hS => ?_)
    clear hK K'
    try simp only [Act.put, List.setIfInBounds_toArray, List.set_cons_zero, List.set_cons_succ]
    refine wpAnyH_ready (rs := [7]) (by kernel_rfl) (by simp) ?_
    refine AllReadyH.cons (o := { dst := some 28, op := .buildSlice 45 1 #[(0, .tmp 27)], type := 45, pos := "gather.go:31", after := #[{ on := 6, ground := .data }], guard := none }) rfl (fun K' hK => ?_) (AllReadyH.nil)
    go_simp
    refine hK.out _ _ HSA.out (fun hS => ?_)
    clear hK K'
    try simp only [Act.put, List.setIfInBounds_toArray, List.set_cons_zero, List.set_cons_succ]
    refine wpAnyH_ready (rs := [8]) (by kernel_rfl) (by simp) ?_
    refine AllReadyH.cons (o := { dst := some 29, op := .call { callee := .builtin .append, args := #[.tmp 25, .tmp 28], argTypes := #[45, 45] }, type := 45, pos := "gather.go:31", after := #[{ on := 4, ground := .data }, { on := 7, ground := .data }], guard := none }) rfl (fun K' hK => ?_) (AllReadyH.nil)
    refine app_step tyL rfl (.tmp 25) (.tmp 28) rfl (A := p.A3) (c := p.d3) rfl hCA.out.o3 (X := some ⟨V.heap.size, 0, none⟩) (m := 1) (cx := 1) rfl (src_new V #[.int .i64 mn, .bool cp, .int .i64 mx] 44 _ rfl) (by simp [Value.oneCell']) (by omega) hCA.out.hL ?_
    intro A2 c2 W2 ho2 hg2 hob2
    have HP := Lib.hid (hCA.out.push3 (ys := [(mn, cp, mx)]) rfl (by simpa [lv] using ho2) hg2 hob2)
    have HS2 := Lib.hid (HSG.out W2 hg2)
    clear ho2 hg2 hob2 hc hcA
    have hc2 : W2.cell? ⟨M, 3, none⟩ = some (.slice p.A3 c.tabs.length p.d3) := by rw [HP.out.cell]; rfl
    have hz2 := HP.out.free
    refine hK.out _ _ HS2.out.1 (fun hS => ?_)
    clear hK K'
    try simp only [Act.put, List.setIfInBounds_toArray, List.set_cons_zero, List.set_cons_succ]
    refine wpAnyH_take (i := 9) (oi := { dst := some 30, op := .nilCheck (.tmp 21), type := 0, pos := "gather.go:31", after := #[{ on := 0, ground := .data }, { on := 0, ground := .phase }, { on := 1, ground := .phase }, { on := 2, ground := .phase }, { on := 3, ground := .phase }, { on := 4, ground := .phase }, { on := 5, ground := .phase }, { on := 6, ground := .phase }, { on := 7, ground := .phase }, { on := 8, ground := .phase }], guard := none }) (v := ?_) rfl (by kernel_rfl) (by kernel_rfl) (by kernel_rfl) (fun _ _ _ h => h) (Or.inl ⟨by rfl, ?_⟩) hS ?_
    rotate_left
    · (intro w' hS'; obtain ⟨s2, s3, s4, s5, s6, s7⟩ := hS'; go_simp) <;> with_reducible rfl
    try simp only [Act.put, List.setIfInBounds_toArray, List.set_cons_zero, List.set_cons_succ]
    refine wpAnyH_take (i := 10) (oi := { dst := some 31, op := .fieldAddr 66 (.tmp 30) 3, type := 0, pos := "gather.go:31", after := #[{ on := 9, ground := .data }, { on := 0, ground := .phase }, { on := 1, ground := .phase }, { on := 2, ground := .phase }, { on := 3, ground := .phase }, { on := 4, ground := .phase }, { on := 5, ground := .phase }, { on := 6, ground := .phase }, { on := 7, ground := .phase }, { on := 8, ground := .phase }], guard := none }) (v := ?_) rfl (by kernel_rfl) (by kernel_rfl) (by kernel_rfl) (fun _ _ _ h => h) (Or.inl ⟨by rfl, ?_⟩) hS ?_
    rotate_left
    · (intro w' hS'; obtain ⟨s2, s3, s4, s5, s6, s7⟩ := hS'; go_simp) <;> with_reducible rfl
    try simp only [Act.put, List.setIfInBounds_toArray, List.set_cons_zero, List.set_cons_succ]
    refine wpAnyH_ready (rs := [11]) (by kernel_rfl) (by simp) ?_
    refine AllReadyH.cons (o := { dst := none, op := .store 45 (.tmp 31) (.tmp 29), type := 0, pos := "gather.go:31", after := #[{ on := 10, ground := .data }, { on := 8, ground := .data }, { on := 8, ground := .chain }, { on := 0, ground := .phase }, { on := 1, ground := .phase }, { on := 2, ground := .phase }, { on := 3, ground := .phase }, { on := 4, ground := .phase }, { on := 5, ground := .phase }, { on := 6, ground := .phase }, { on := 7, ground := .phase }, { on := 8, ground := .phase }], guard := none }) rfl (fun K' hK => ?_) (AllReadyH.nil)
    go_simp
    refine hK.out _ _ (HS2.out.2 _) (fun hS => ?_)
    clear hK K'
    try simp only [Act.put, List.setIfInBounds_toArray, List.set_cons_zero, List.set_cons_succ]
    refine wpAnyH_done (by kernel_rfl) ?_ _
    go_wp2
    refine bodyPost_end (v := .tuple #[]) (by simp [results, Try.results39, go_sem]) rfl ?_
    exact ⟨rfl, HP.out.st, HB.out.mono (Nat.le_of_lt HM.out) |>.trans ((HBA.out.mono (Nat.le_trans (Nat.le_of_lt HM.out) HB.out.size)).trans HP.out.below)⟩
  · go_simp
    refine hK.out _ _ HSA.out (fun hS => ?_)
    clear hK K'
    try simp only [Act.put, List.setIfInBounds_toArray, List.set_cons_zero, List.set_cons_succ]
    refine wpAnyH_ready (rs := [4]) (by kernel_rfl) (by simp) ?_
    refine AllReadyH.cons (o := { dst := some 25, op := .load 45 (.tmp 24), type := 45, pos := "gather.go:31", after := #[{ on := 3, ground := .data }], guard := none }) rfl (fun K' hK => ?_) (AllReadyH.nil)
    go_simp
    refine hK.out _ _ hS (fun hS => ?_)
    clear hK K'
    try simp only [Act.put, List.setIfInBounds_toArray, List.set_cons_zero, List.set_cons_succ]
    refine wpAnyH_ready (rs := [8]) (by kernel_rfl) (by simp) ?_
    refine AllReadyH.cons (o := { dst := some 29, op := .call { callee := .builtin .append, args := #[.tmp 25, .tmp 28], argTypes := #[45, 45] }, type := 45, pos := "gather.go:31", after := #[{ on := 4, ground := .data }, { on := 7, ground := .data }], guard := none }) rfl (fun K' hK => ?_) (AllReadyH.nil)
    refine app_step tyL rfl (.tmp 25) (.tmp 28) rfl (A := p.A3) (c := p.d3) rfl hCA.out.o3 (X := some ⟨V.heap.size, 0, none⟩) (m := 1) (cx := 1) rfl (src_new V #[.int .i64 mn, .bool cp, .int .i64 mx] 44 _ rfl) (by simp [Value.oneCell']) (by omega) hCA.out.hL ?_
    intro A2 c2 W2 ho2 hg2 hob2
    have HP := Lib.hid (hCA.out.push3 (ys := [(mn, cp, mx)]) rfl (by simpa [lv] using ho2) hg2 hob2)
    have HS2 := Lib.hid (HSG.out W2 hg2)
    clear ho2 hg2 hob2 hc hcA
    have hc2 : W2.cell? ⟨M, 3, none⟩ = some (.slice p.A3 c.tabs.length p.d3) := by rw [HP.out.cell]; rfl
    have hz2 := HP.out.free
    refine hK.out _ _ HS2.out.1 (fun hS => ?_)
    clear hK K'
    try simp only [Act.put, List.setIfInBounds_toArray, List.set_cons_zero, List.set_cons_succ]
    refine wpAnyH_take (i := 9) (oi := { dst := some 30, op := .nilCheck (.tmp 21), type := 0, pos := "gather.go:31", after := #[{ on := 0, ground := .data }, { on := 0, ground := .phase }, { on := 1, ground := .phase }, { on := 2, ground := .phase }, { on := 3, ground := .phase }, { on := 4, ground := .phase }, { on := 5, ground := .phase }, { on := 6, ground := .phase }, { on := 7, ground := .phase }, { on := 8, ground := .phase }], guard := none }) (v := ?_) rfl (by kernel_rfl) (by kernel_rfl) (by kernel_rfl) (fun _ _ _ h => h) (Or.inl ⟨by rfl, ?_⟩) hS ?_
    rotate_left
    · (intro w' hS'; obtain ⟨s2, s3, s4, s5, s6, s7⟩ := hS'; go_simp) <;> with_reducible rfl
    try simp only [Act.put, List.setIfInBounds_toArray, List.set_cons_zero, List.set_cons_succ]
    refine wpAnyH_take (i := 10) (oi := { dst := some 31, op := .fieldAddr 66 (.tmp 30) 3, type := 0, pos := "gather.go:31", after := #[{ on := 9, ground := .data }, { on := 0, ground := .phase }, { on := 1, ground := .phase }, { on := 2, ground := .phase }, { on := 3, ground := .phase }, { on := 4, ground := .phase }, { on := 5, ground := .phase }, { on := 6, ground := .phase }, { on := 7, ground := .phase }, { on := 8, ground := .phase }], guard := none }) (v := ?_) rfl (by kernel_rfl) (by kernel_rfl) (by kernel_rfl) (fun _ _ _ h => h) (Or.inl ⟨by rfl, ?_⟩) hS ?_
    rotate_left
    · (intro w' hS'; obtain ⟨s2, s3, s4, s5, s6, s7⟩ := hS'; go_simp) <;> with_reducible rfl
    try simp only [Act.put, List.setIfInBounds_toArray, List.set_cons_zero, List.set_cons_succ]
    refine wpAnyH_ready (rs := [11]) (by kernel_rfl) (by simp) ?_
    refine AllReadyH.cons (o := { dst := none, op := .store 45 (.tmp 31) (.tmp 29), type := 0, pos := "gather.go:31", after := #[{ on := 10, ground := .data }, { on := 8, ground := .data }, { on := 8, ground := .chain }, { on := 0, ground := .phase }, { on := 1, ground := .phase }, { on := 2, ground := .phase }, { on := 3, ground := .phase }, { on := 4, ground := .phase }, { on := 5, ground := .phase }, { on := 6, ground := .phase }, { on := 7, ground := .phase }, { on := 8, ground := .phase }], guard := none }) rfl (fun K' hK => ?_) (AllReadyH.nil)
    go_simp
    refine hK.out _ _ (HS2.out.2 _) (fun hS => ?_)
    clear hK K'
    try simp only [Act.put, List.setIfInBounds_toArray, List.set_cons_zero, List.set_cons_succ]
    refine wpAnyH_done (by kernel_rfl) ?_ _
    go_wp2
    refine bodyPost_end (v := .tuple #[]) (by simp [results, Try.results39, go_sem]) rfl ?_
    exact ⟨rfl, HP.out.st, HB.out.mono (Nat.le_of_lt HM.out) |>.trans ((HBA.out.mono (Nat.le_trans (Nat.le_of_lt HM.out) HB.out.size)).trans HP.out.below)⟩
set_option maxRecDepth 100000 in
set_option maxHeartbeats 4000000 in
theorem addI_2 (h : CS W L M okT p c) (hn : c.mems.length ≤ 1000) : Calls Try.prog 39 #[.pointer (some ⟨M, 0, none⟩), .agg #[.string md, .string nm, .int .i64 2, .int .i64 ty, .int .i64 mn, .bool cp, .int .i64 mx, .bool mu]] W (AddIs W L M okT p { c with mems := c.mems ++ [(mn, cp, mx)] }) := by
  have hb0 : Below W.heap.size W (W.alloc (.cells #[.string md, .string nm, .int .i64 2, .int .i64 ty, .int .i64 mn, .bool cp, .int .i64 mx, .bool mu] 72)).drew := ((Below.refl _ _).alloc (Nat.le_refl _) _).drew
  have hs0 : (W.alloc (.cells #[.string md, .string nm, .int .i64 2, .int .i64 ty, .int .i64 mn, .bool cp, .int .i64 mx, .bool mu] 72)).drew.heap.size = W.heap.size + 1 := by simp
  have hS0 : ∀ v, Below (W.heap.size + 1) (W.alloc (.cells #[.string md, .string nm, .int .i64 2, .int .i64 ty, .int .i64 mn, .bool cp, .int .i64 mx, .bool mu] 72)).drew v → BoxI W.heap.size 2 ty mn cp mx mu v := fun v hv => by
    refine ⟨?_, ?_, ?_, ?_, ?_, ?_⟩ <;> exact (hv.cell (by simp)).trans (by simp)
  go_enter Try.func39, Try.ntmps39
  go_wp2_with fail
  refine wp_region_held_drew (S := BoxI W.heap.size 2 ty mn cp mx mu) (by kernel_rfl) (hS0 _ (Below.refl _ _)) (fun hS => ?_)
  generalize (W.alloc (.cells #[.string md, .string nm, .int .i64 2, .int .i64 ty, .int .i64 mn, .bool cp, .int .i64 mx, .bool mu] 72)).drew = V at *
  have hC := Lib.hid (h.below hb0)
  have hMs : M < W.heap.size := by have := h.lt; have := h.hL; omega
  have hbA : Below V.heap.size V (V.alloc (.cells #[.int .i64 mn, .bool cp, .int .i64 mx] 44)) := (Below.refl _ _).alloc (Nat.le_refl _) _
  have hCA := Lib.hid (hC.out.below hbA)
  have hc : V.cell? ⟨M, 4, none⟩ = some (.slice p.A4 c.mems.length p.d4) := by rw [hC.out.cell]; rfl
  have hcA : (V.alloc (.cells #[.int .i64 mn, .bool cp, .int .i64 mx] 44)).cell? ⟨M, 4, none⟩ = some (.slice p.A4 c.mems.length p.d4) := by rw [hCA.out.cell]; rfl
  have hSA := hS0 _ (hbA.mono (by omega))
  have HOW : Hid (∀ b, (Value.slice p.A4 c.mems.length p.d4).ownBlock = some b → b < W.heap.size) := Lib.hid fun b hb => (rowLt h.o4 b hb).2
  have HSG : Hid (∀ W2, (V.alloc (.cells #[.int .i64 mn, .bool cp, .int .i64 mx] 44)).grownBy W2 (Value.slice p.A4 c.mems.length p.d4).ownBlock → BoxI W.heap.size 2 ty mn cp mx mu W2 ∧ ∀ u, BoxI W.heap.size 2 ty mn cp mx mu (W2.setCell ⟨M, 4, none⟩ u)) := Lib.hid fun W2 hg => by
    have e : W2.heap[W.heap.size]? = (V.alloc (.cells #[.int .i64 mn, .bool cp, .int .i64 mx] 44)).heap[W.heap.size]? := hg.block _ (by simp; omega) fun e => by have := HOW.out _ e.symm; omega
    refine ⟨?_, fun u => ?_⟩
    · unfold BoxI at hSA ⊢
      simp only [World.cell?_of_block (w := (V.alloc (.cells #[.int .i64 mn, .bool cp, .int .i64 mx] 44))) (w' := W2) (a := ⟨W.heap.size, _, none⟩) e]
      exact hSA
    · have e2 : (W2.setCell ⟨M, 4, none⟩ u).heap[W.heap.size]? = (V.alloc (.cells #[.int .i64 mn, .bool cp, .int .i64 mx] 44)).heap[W.heap.size]? := (far_set (by simp; omega) _).trans e
      unfold BoxI at hSA ⊢
      simp only [World.cell?_of_block (w := (V.alloc (.cells #[.int .i64 mn, .bool cp, .int .i64 mx] 44))) (w' := W2.setCell ⟨M, 4, none⟩ u) (a := ⟨W.heap.size, _, none⟩) e2]
      exact hSA
  have HM := Lib.hid hMs
  have HB := Lib.hid hb0
  have HBA := Lib.hid hbA
  have HSA := Lib.hid hSA
  clear h hb0 hS0 hMs hSA hbA HOW hs0
  refine wpAnyH_take (i := 0) (oi := { dst := some 34, op := .move (.tmp 0), type := 97, pos := "gather.go:33", after := #[], guard := none }) (v := ?_) rfl (by kernel_rfl) (by kernel_rfl) (by kernel_rfl) (fun _ _ _ h => h) (Or.inl ⟨by rfl, ?_⟩) hS ?_
  rotate_left
  · (intro w' hS'; obtain ⟨s2, s3, s4, s5, s6, s7⟩ := hS'; go_simp) <;> with_reducible rfl
  try simp only [Act.put, List.setIfInBounds_toArray, List.set_cons_zero, List.set_cons_succ]
  refine wpAnyH_take (i := 1) (oi := { dst := some 35, op := .move (.tmp 0), type := 97, pos := "gather.go:33", after := #[], guard := none }) (v := ?_) rfl (by kernel_rfl) (by kernel_rfl) (by kernel_rfl) (fun _ _ _ h => h) (Or.inl ⟨by rfl, ?_⟩) hS ?_
  rotate_left
  · (intro w' hS'; obtain ⟨s2, s3, s4, s5, s6, s7⟩ := hS'; go_simp) <;> with_reducible rfl
  try simp only [Act.put, List.setIfInBounds_toArray, List.set_cons_zero, List.set_cons_succ]
  refine wpAnyH_take (i := 2) (oi := { dst := some 36, op := .nilCheck (.tmp 35), type := 0, pos := "gather.go:33", after := #[{ on := 1, ground := .data }], guard := none }) (v := ?_) rfl (by kernel_rfl) (by kernel_rfl) (by kernel_rfl) (fun _ _ _ h => h) (Or.inl ⟨by rfl, ?_⟩) hS ?_
  rotate_left
  · (intro w' hS'; obtain ⟨s2, s3, s4, s5, s6, s7⟩ := hS'; go_simp) <;> with_reducible rfl
  try simp only [Act.put, List.setIfInBounds_toArray, List.set_cons_zero, List.set_cons_succ]
  refine wpAnyH_take (i := 3) (oi := { dst := some 37, op := .fieldAddr 66 (.tmp 36) 4, type := 0, pos := "gather.go:33", after := #[{ on := 2, ground := .data }], guard := none }) (v := ?_) rfl (by kernel_rfl) (by kernel_rfl) (by kernel_rfl) (fun _ _ _ h => h) (Or.inl ⟨by rfl, ?_⟩) hS ?_
  rotate_left
  · (intro w' hS'; obtain ⟨s2, s3, s4, s5, s6, s7⟩ := hS'; go_simp) <;> with_reducible rfl
  try simp only [Act.put, List.setIfInBounds_toArray, List.set_cons_zero, List.set_cons_succ]
  refine wpAnyH_take (i := 5) (oi := { dst := some 39, op := .fieldAddr 72 (.tmp 3) 4, type := 0, pos := "gather.go:33", after := #[], guard := none }) (v := ?_) rfl (by kernel_rfl) (by kernel_rfl) (by kernel_rfl) (fun _ _ _ h => h) (Or.inl ⟨by rfl, ?_⟩) hS ?_
  rotate_left
  · (intro w' hS'; obtain ⟨s2, s3, s4, s5, s6, s7⟩ := hS'; go_simp) <;> with_reducible rfl
  try simp only [Act.put, List.setIfInBounds_toArray, List.set_cons_zero, List.set_cons_succ]
  refine wpAnyH_take (i := 6) (oi := { dst := some 40, op := .load 44 (.tmp 39), type := 44, pos := "gather.go:33", after := #[{ on := 5, ground := .data }], guard := none }) (v := ?_) rfl (by kernel_rfl) (by kernel_rfl) (by kernel_rfl) (fun _ _ _ h => h) (Or.inl ⟨by rfl, ?_⟩) hS ?_
  rotate_left
  · (intro w' hS'; obtain ⟨s2, s3, s4, s5, s6, s7⟩ := hS'; go_simp) <;> with_reducible rfl
  try simp only [Act.put, List.setIfInBounds_toArray, List.set_cons_zero, List.set_cons_succ]
  refine wpAnyH_ready (rs := [4, 7]) (by kernel_rfl) (by simp) ?_
  refine AllReadyH.cons (o := { dst := some 38, op := .load 45 (.tmp 37), type := 45, pos := "gather.go:33", after := #[{ on := 3, ground := .data }], guard := none }) rfl (fun K' hK => ?_) (AllReadyH.cons (o := { dst := some 41, op := .buildSlice 45 1 #[(0, .tmp 40)], type := 45, pos := "gather.go:33", after := #[{ on := 6, ground := .data }], guard := none }) rfl (fun K' hK => ?_) (AllReadyH.nil))
  · go_simp
    refine hK.out _ _ hS (fun hS => ?_)
    clear hK K'
    try simp only [Act.put, List.setIfInBounds_toArray, List.set_cons_zero, List.set_cons_succ]
    refine wpAnyH_ready (rs := [7]) (by kernel_rfl) (by simp) ?_
    refine AllReadyH.cons (o := { dst := some 41, op := .buildSlice 45 1 #[(0, .tmp 40)], type := 45, pos := "gather.go:33", after := #[{ on := 6, ground := .data }], guard := none }) rfl (fun K' hK => ?_) (AllReadyH.nil)
    go_simp
    refine hK.out _ _ HSA.out (fun hS => ?_)
    clear hK K'
    try simp only [Act.put, List.setIfInBounds_toArray, List.set_cons_zero, List.set_cons_succ]
    refine wpAnyH_ready (rs := [8]) (by kernel_rfl) (by simp) ?_
    refine AllReadyH.cons (o := { dst := some 42, op := .call { callee := .builtin .append, args := #[.tmp 38, .tmp 41], argTypes := #[45, 45] }, type := 45, pos := "gather.go:33", after := #[{ on := 4, ground := .data }, { on := 7, ground := .data }], guard := none }) rfl (fun K' hK => ?_) (AllReadyH.nil)
    refine app_step tyL rfl (.tmp 38) (.tmp 41) rfl (A := p.A4) (c := p.d4) rfl hCA.out.o4 (X := some ⟨V.heap.size, 0, none⟩) (m := 1) (cx := 1) rfl (src_new V #[.int .i64 mn, .bool cp, .int .i64 mx] 44 _ rfl) (by simp [Value.oneCell']) (by omega) hCA.out.hL ?_
    intro A2 c2 W2 ho2 hg2 hob2
    have HP := Lib.hid (hCA.out.push4 (ys := [(mn, cp, mx)]) rfl (by simpa [lv] using ho2) hg2 hob2)
    have HS2 := Lib.hid (HSG.out W2 hg2)
    clear ho2 hg2 hob2 hc hcA
    have hc2 : W2.cell? ⟨M, 4, none⟩ = some (.slice p.A4 c.mems.length p.d4) := by rw [HP.out.cell]; rfl
    have hz2 := HP.out.free
    refine hK.out _ _ HS2.out.1 (fun hS => ?_)
    clear hK K'
    try simp only [Act.put, List.setIfInBounds_toArray, List.set_cons_zero, List.set_cons_succ]
    refine wpAnyH_take (i := 9) (oi := { dst := some 43, op := .nilCheck (.tmp 34), type := 0, pos := "gather.go:33", after := #[{ on := 0, ground := .data }, { on := 0, ground := .phase }, { on := 1, ground := .phase }, { on := 2, ground := .phase }, { on := 3, ground := .phase }, { on := 4, ground := .phase }, { on := 5, ground := .phase }, { on := 6, ground := .phase }, { on := 7, ground := .phase }, { on := 8, ground := .phase }], guard := none }) (v := ?_) rfl (by kernel_rfl) (by kernel_rfl) (by kernel_rfl) (fun _ _ _ h => h) (Or.inl ⟨by rfl, ?_⟩) hS ?_
    rotate_left
    · (intro w' hS'; obtain ⟨s2, s3, s4, s5, s6, s7⟩ := hS'; go_simp) <;> with_reducible rfl
    try simp only [Act.put, List.setIfInBounds_toArray, List.set_cons_zero, List.set_cons_succ]
    refine wpAnyH_take (i := 10) (oi := { dst := some 44, op := .fieldAddr 66 (.tmp 43) 4, type := 0, pos := "gather.go:33", after := #[{ on := 9, ground := .data }, { on := 0, ground := .phase }, { on := 1, ground := .phase }, { on := 2, ground := .phase }, { on := 3, ground := .phase }, { on := 4, ground := .phase }, { on := 5, ground := .phase }, { on := 6, ground := .phase }, { on := 7, ground := .phase }, { on := 8, ground := .phase }], guard := none }) (v := ?_) rfl (by kernel_rfl) (by kernel_rfl) (by kernel_rfl) (fun _ _ _ h => h) (Or.inl ⟨by rfl, ?_⟩) hS ?_
    rotate_left
    · (intro w' hS'; obtain ⟨s2, s3, s4, s5, s6, s7⟩ := hS'; go_simp) <;> with_reducible rfl
    try simp only [Act.put, List.setIfInBounds_toArray, List.set_cons_zero, List.set_cons_succ]
    refine wpAnyH_ready (rs := [11]) (by kernel_rfl) (by simp) ?_
    refine AllReadyH.cons (o := { dst := none, op := .store 45 (.tmp 44) (.tmp 42), type := 0, pos := "gather.go:33", after := #[{ on := 10, ground := .data }, { on := 8, ground := .data }, { on := 8, ground := .chain }, { on := 0, ground := .phase }, { on := 1, ground := .phase }, { on := 2, ground := .phase }, { on := 3, ground := .phase }, { on := 4, ground := .phase }, { on := 5, ground := .phase }, { on := 6, ground := .phase }, { on := 7, ground := .phase }, { on := 8, ground := .phase }], guard := none }) rfl (fun K' hK => ?_) (AllReadyH.nil)
    go_simp
    refine hK.out _ _ (HS2.out.2 _) (fun hS => ?_)
    clear hK K'
    try simp only [Act.put, List.setIfInBounds_toArray, List.set_cons_zero, List.set_cons_succ]
    refine wpAnyH_done (by kernel_rfl) ?_ _
    go_wp2
    refine bodyPost_end (v := .tuple #[]) (by simp [results, Try.results39, go_sem]) rfl ?_
    exact ⟨rfl, HP.out.st, HB.out.mono (Nat.le_of_lt HM.out) |>.trans ((HBA.out.mono (Nat.le_trans (Nat.le_of_lt HM.out) HB.out.size)).trans HP.out.below)⟩
  · go_simp
    refine hK.out _ _ HSA.out (fun hS => ?_)
    clear hK K'
    try simp only [Act.put, List.setIfInBounds_toArray, List.set_cons_zero, List.set_cons_succ]
    refine wpAnyH_ready (rs := [4]) (by kernel_rfl) (by simp) ?_
    refine AllReadyH.cons (o := { dst := some 38, op := .load 45 (.tmp 37), type := 45, pos := "gather.go:33", after := #[{ on := 3, ground := .data }], guard := none }) rfl (fun K' hK => ?_) (AllReadyH.nil)
    go_simp
    refine hK.out _ _ hS (fun hS => ?_)
    clear hK K'
    try simp only [Act.put, List.setIfInBounds_toArray, List.set_cons_zero, List.set_cons_succ]
    refine wpAnyH_ready (rs := [8]) (by kernel_rfl) (by simp) ?_
    refine AllReadyH.cons (o := { dst := some 42, op := .call { callee := .builtin .append, args := #[.tmp 38, .tmp 41], argTypes := #[45, 45] }, type := 45, pos := "gather.go:33", after := #[{ on := 4, ground := .data }, { on := 7, ground := .data }], guard := none }) rfl (fun K' hK => ?_) (AllReadyH.nil)
    refine app_step tyL rfl (.tmp 38) (.tmp 41) rfl (A := p.A4) (c := p.d4) rfl hCA.out.o4 (X := some ⟨V.heap.size, 0, none⟩) (m := 1) (cx := 1) rfl (src_new V #[.int .i64 mn, .bool cp, .int .i64 mx] 44 _ rfl) (by simp [Value.oneCell']) (by omega) hCA.out.hL ?_
    intro A2 c2 W2 ho2 hg2 hob2
    have HP := Lib.hid (hCA.out.push4 (ys := [(mn, cp, mx)]) rfl (by simpa [lv] using ho2) hg2 hob2)
    have HS2 := Lib.hid (HSG.out W2 hg2)
    clear ho2 hg2 hob2 hc hcA
    have hc2 : W2.cell? ⟨M, 4, none⟩ = some (.slice p.A4 c.mems.length p.d4) := by rw [HP.out.cell]; rfl
    have hz2 := HP.out.free
    refine hK.out _ _ HS2.out.1 (fun hS => ?_)
    clear hK K'
    try simp only [Act.put, List.setIfInBounds_toArray, List.set_cons_zero, List.set_cons_succ]
    refine wpAnyH_take (i := 9) (oi := { dst := some 43, op := .nilCheck (.tmp 34), type := 0, pos := "gather.go:33", after := #[{ on := 0, ground := .data }, { on := 0, ground := .phase }, { on := 1, ground := .phase }, { on := 2, ground := .phase }, { on := 3, ground := .phase }, { on := 4, ground := .phase }, { on := 5, ground := .phase }, { on := 6, ground := .phase }, { on := 7, ground := .phase }, { on := 8, ground := .phase }], guard := none }) (v := ?_) rfl (by kernel_rfl) (by kernel_rfl) (by kernel_rfl) (fun _ _ _ h => h) (Or.inl ⟨by rfl, ?_⟩) hS ?_
    rotate_left
    · (intro w' hS'; obtain ⟨s2, s3, s4, s5, s6, s7⟩ := hS'; go_simp) <;> with_reducible rfl
    try simp only [Act.put, List.setIfInBounds_toArray, List.set_cons_zero, List.set_cons_succ]
    refine wpAnyH_take (i := 10) (oi := { dst := some 44, op := .fieldAddr 66 (.tmp 43) 4, type := 0, pos := "gather.go:33", after := #[{ on := 9, ground := .data }, { on := 0, ground := .phase }, { on := 1, ground := .phase }, { on := 2, ground := .phase }, { on := 3, ground := .phase }, { on := 4, ground := .phase }, { on := 5, ground := .phase }, { on := 6, ground := .phase }, { on := 7, ground := .phase }, { on := 8, ground := .phase }], guard := none }) (v := ?_) rfl (by kernel_rfl) (by kernel_rfl) (by kernel_rfl) (fun _ _ _ h => h) (Or.inl ⟨by rfl, ?_⟩) hS ?_
    rotate_left
    · (intro w' hS'; obtain ⟨s2, s3, s4, s5, s6, s7⟩ := hS'; go_simp) <;> with_reducible rfl
    try simp only [Act.put, List.setIfInBounds_toArray, List.set_cons_zero, List.set_cons_succ]
    refine wpAnyH_ready (rs := [11]) (by kernel_rfl) (by simp) ?_
    refine AllReadyH.cons (o := { dst := none, op := .store 45 (.tmp 44) (.tmp 42), type := 0, pos := "gather.go:33", after := #[{ on := 10, ground := .data }, { on := 8, ground := .data }, { on := 8, ground := .chain }, { on := 0, ground := .phase }, { on := 1, ground := .phase }, { on := 2, ground := .phase }, { on := 3, ground := .phase }, { on := 4, ground := .phase }, { on := 5, ground := .phase }, { on := 6, ground := .phase }, { on := 7, ground := .phase }, { on := 8, ground := .phase }], guard := none }) rfl (fun K' hK => ?_) (AllReadyH.nil)
    go_simp
    refine hK.out _ _ (HS2.out.2 _) (fun hS => ?_)
    clear hK K'
    try simp only [Act.put, List.setIfInBounds_toArray, List.set_cons_zero, List.set_cons_succ]
    refine wpAnyH_done (by kernel_rfl) ?_ _
    go_wp2
    refine bodyPost_end (v := .tuple #[]) (by simp [results, Try.results39, go_sem]) rfl ?_
    exact ⟨rfl, HP.out.st, HB.out.mono (Nat.le_of_lt HM.out) |>.trans ((HBA.out.mono (Nat.le_trans (Nat.le_of_lt HM.out) HB.out.size)).trans HP.out.below)⟩
set_option maxRecDepth 100000 in
set_option maxHeartbeats 4000000 in
theorem addI_3 (h : CS W L M okT p c) (hn : c.globs.length ≤ 1000) : Calls Try.prog 39 #[.pointer (some ⟨M, 0, none⟩), .agg #[.string md, .string nm, .int .i64 3, .int .i64 ty, .int .i64 mn, .bool cp, .int .i64 mx, .bool mu]] W (AddIs W L M okT p { c with globs := c.globs ++ [(ty, mu)] }) := by
  have hb0 : Below W.heap.size W (W.alloc (.cells #[.string md, .string nm, .int .i64 3, .int .i64 ty, .int .i64 mn, .bool cp, .int .i64 mx, .bool mu] 72)).drew := ((Below.refl _ _).alloc (Nat.le_refl _) _).drew
  have hs0 : (W.alloc (.cells #[.string md, .string nm, .int .i64 3, .int .i64 ty, .int .i64 mn, .bool cp, .int .i64 mx, .bool mu] 72)).drew.heap.size = W.heap.size + 1 := by simp
  have hS0 : ∀ v, Below (W.heap.size + 1) (W.alloc (.cells #[.string md, .string nm, .int .i64 3, .int .i64 ty, .int .i64 mn, .bool cp, .int .i64 mx, .bool mu] 72)).drew v → BoxI W.heap.size 3 ty mn cp mx mu v := fun v hv => by
    refine ⟨?_, ?_, ?_, ?_, ?_, ?_⟩ <;> exact (hv.cell (by simp)).trans (by simp)
  go_enter Try.func39, Try.ntmps39
  go_wp2_with fail
  refine wp_region_held_drew (S := BoxI W.heap.size 3 ty mn cp mx mu) (by kernel_rfl) (hS0 _ (Below.refl _ _)) (fun hS => ?_)
  generalize (W.alloc (.cells #[.string md, .string nm, .int .i64 3, .int .i64 ty, .int .i64 mn, .bool cp, .int .i64 mx, .bool mu] 72)).drew = V at *
  have hC := Lib.hid (h.below hb0)
  have hMs : M < W.heap.size := by have := h.lt; have := h.hL; omega
  have hbA : Below V.heap.size V (V.alloc (.cells #[.int .i64 ty, .bool mu] 101)) := (Below.refl _ _).alloc (Nat.le_refl _) _
  have hCA := Lib.hid (hC.out.below hbA)
  have hc : V.cell? ⟨M, 2, none⟩ = some (.slice p.A2 c.globs.length p.d2) := by rw [hC.out.cell]; rfl
  have hcA : (V.alloc (.cells #[.int .i64 ty, .bool mu] 101)).cell? ⟨M, 2, none⟩ = some (.slice p.A2 c.globs.length p.d2) := by rw [hCA.out.cell]; rfl
  have hSA := hS0 _ (hbA.mono (by omega))
  have HOW : Hid (∀ b, (Value.slice p.A2 c.globs.length p.d2).ownBlock = some b → b < W.heap.size) := Lib.hid fun b hb => (rowLt h.o2 b hb).2
  have HSG : Hid (∀ W2, (V.alloc (.cells #[.int .i64 ty, .bool mu] 101)).grownBy W2 (Value.slice p.A2 c.globs.length p.d2).ownBlock → BoxI W.heap.size 3 ty mn cp mx mu W2 ∧ ∀ u, BoxI W.heap.size 3 ty mn cp mx mu (W2.setCell ⟨M, 2, none⟩ u)) := Lib.hid fun W2 hg => by
    have e : W2.heap[W.heap.size]? = (V.alloc (.cells #[.int .i64 ty, .bool mu] 101)).heap[W.heap.size]? := hg.block _ (by simp; omega) fun e => by have := HOW.out _ e.symm; omega
    refine ⟨?_, fun u => ?_⟩
    · unfold BoxI at hSA ⊢
      simp only [World.cell?_of_block (w := (V.alloc (.cells #[.int .i64 ty, .bool mu] 101))) (w' := W2) (a := ⟨W.heap.size, _, none⟩) e]
      exact hSA
    · have e2 : (W2.setCell ⟨M, 2, none⟩ u).heap[W.heap.size]? = (V.alloc (.cells #[.int .i64 ty, .bool mu] 101)).heap[W.heap.size]? := (far_set (by simp; omega) _).trans e
      unfold BoxI at hSA ⊢
      simp only [World.cell?_of_block (w := (V.alloc (.cells #[.int .i64 ty, .bool mu] 101))) (w' := W2.setCell ⟨M, 2, none⟩ u) (a := ⟨W.heap.size, _, none⟩) e2]
      exact hSA
  have HM := Lib.hid hMs
  have HB := Lib.hid hb0
  have HBA := Lib.hid hbA
  have HSA := Lib.hid hSA
  clear h hb0 hS0 hMs hSA hbA HOW hs0
  refine wpAnyH_take (i := 0) (oi := { dst := some 47, op := .move (.tmp 0), type := 97, pos := "gather.go:35", after := #[], guard := none }) (v := ?_) rfl (by kernel_rfl) (by kernel_rfl) (by kernel_rfl) (fun _ _ _ h => h) (Or.inl ⟨by rfl, ?_⟩) hS ?_
  rotate_left
  · (intro w' hS'; obtain ⟨s2, s3, s4, s5, s6, s7⟩ := hS'; go_simp) <;> with_reducible rfl
  try simp only [Act.put, List.setIfInBounds_toArray, List.set_cons_zero, List.set_cons_succ]
  refine wpAnyH_take (i := 1) (oi := { dst := some 48, op := .move (.tmp 0), type := 97, pos := "gather.go:35", after := #[], guard := none }) (v := ?_) rfl (by kernel_rfl) (by kernel_rfl) (by kernel_rfl) (fun _ _ _ h => h) (Or.inl ⟨by rfl, ?_⟩) hS ?_
  rotate_left
  · (intro w' hS'; obtain ⟨s2, s3, s4, s5, s6, s7⟩ := hS'; go_simp) <;> with_reducible rfl
  try simp only [Act.put, List.setIfInBounds_toArray, List.set_cons_zero, List.set_cons_succ]
  refine wpAnyH_take (i := 2) (oi := { dst := some 49, op := .nilCheck (.tmp 48), type := 0, pos := "gather.go:35", after := #[{ on := 1, ground := .data }], guard := none }) (v := ?_) rfl (by kernel_rfl) (by kernel_rfl) (by kernel_rfl) (fun _ _ _ h => h) (Or.inl ⟨by rfl, ?_⟩) hS ?_
  rotate_left
  · (intro w' hS'; obtain ⟨s2, s3, s4, s5, s6, s7⟩ := hS'; go_simp) <;> with_reducible rfl
  try simp only [Act.put, List.setIfInBounds_toArray, List.set_cons_zero, List.set_cons_succ]
  refine wpAnyH_take (i := 3) (oi := { dst := some 50, op := .fieldAddr 66 (.tmp 49) 2, type := 0, pos := "gather.go:35", after := #[{ on := 2, ground := .data }], guard := none }) (v := ?_) rfl (by kernel_rfl) (by kernel_rfl) (by kernel_rfl) (fun _ _ _ h => h) (Or.inl ⟨by rfl, ?_⟩) hS ?_
  rotate_left
  · (intro w' hS'; obtain ⟨s2, s3, s4, s5, s6, s7⟩ := hS'; go_simp) <;> with_reducible rfl
  try simp only [Act.put, List.setIfInBounds_toArray, List.set_cons_zero, List.set_cons_succ]
  refine wpAnyH_take (i := 5) (oi := { dst := some 52, op := .fieldAddr 72 (.tmp 3) 3, type := 0, pos := "gather.go:35", after := #[], guard := none }) (v := ?_) rfl (by kernel_rfl) (by kernel_rfl) (by kernel_rfl) (fun _ _ _ h => h) (Or.inl ⟨by rfl, ?_⟩) hS ?_
  rotate_left
  · (intro w' hS'; obtain ⟨s2, s3, s4, s5, s6, s7⟩ := hS'; go_simp) <;> with_reducible rfl
  try simp only [Act.put, List.setIfInBounds_toArray, List.set_cons_zero, List.set_cons_succ]
  refine wpAnyH_take (i := 6) (oi := { dst := some 53, op := .load 3 (.tmp 52), type := 3, pos := "gather.go:35", after := #[{ on := 5, ground := .data }], guard := none }) (v := ?_) rfl (by kernel_rfl) (by kernel_rfl) (by kernel_rfl) (fun _ _ _ h => h) (Or.inl ⟨by rfl, ?_⟩) hS ?_
  rotate_left
  · (intro w' hS'; obtain ⟨s2, s3, s4, s5, s6, s7⟩ := hS'; go_simp) <;> with_reducible rfl
  try simp only [Act.put, List.setIfInBounds_toArray, List.set_cons_zero, List.set_cons_succ]
  refine wpAnyH_take (i := 7) (oi := { dst := some 54, op := .fieldAddr 72 (.tmp 3) 5, type := 0, pos := "gather.go:35", after := #[], guard := none }) (v := ?_) rfl (by kernel_rfl) (by kernel_rfl) (by kernel_rfl) (fun _ _ _ h => h) (Or.inl ⟨by rfl, ?_⟩) hS ?_
  rotate_left
  · (intro w' hS'; obtain ⟨s2, s3, s4, s5, s6, s7⟩ := hS'; go_simp) <;> with_reducible rfl
  try simp only [Act.put, List.setIfInBounds_toArray, List.set_cons_zero, List.set_cons_succ]
  refine wpAnyH_take (i := 8) (oi := { dst := some 55, op := .load 4 (.tmp 54), type := 4, pos := "gather.go:35", after := #[{ on := 7, ground := .data }], guard := none }) (v := ?_) rfl (by kernel_rfl) (by kernel_rfl) (by kernel_rfl) (fun _ _ _ h => h) (Or.inl ⟨by rfl, ?_⟩) hS ?_
  rotate_left
  · (intro w' hS'; obtain ⟨s2, s3, s4, s5, s6, s7⟩ := hS'; go_simp) <;> with_reducible rfl
  try simp only [Act.put, List.setIfInBounds_toArray, List.set_cons_zero, List.set_cons_succ]
  refine wpAnyH_take (i := 9) (oi := { dst := some 56, op := .build 101 #[(0, .tmp 53), (1, .tmp 55)], type := 101, pos := "gather.go:35", after := #[{ on := 6, ground := .data }, { on := 8, ground := .data }], guard := none }) (v := ?_) rfl (by kernel_rfl) (by kernel_rfl) (by kernel_rfl) (fun _ _ _ h => h) (Or.inl ⟨by rfl, ?_⟩) hS ?_
  rotate_left
  · (intro w' hS'; obtain ⟨s2, s3, s4, s5, s6, s7⟩ := hS'; go_simp) <;> with_reducible rfl
  try simp only [Act.put, List.setIfInBounds_toArray, List.set_cons_zero, List.set_cons_succ]
  refine wpAnyH_ready (rs := [4, 10]) (by kernel_rfl) (by simp) ?_
  refine AllReadyH.cons (o := { dst := some 51, op := .load 64 (.tmp 50), type := 64, pos := "gather.go:35", after := #[{ on := 3, ground := .data }], guard := none }) rfl (fun K' hK => ?_) (AllReadyH.cons (o := { dst := some 57, op := .buildSlice 64 1 #[(0, .tmp 56)], type := 64, pos := "gather.go:35", after := #[{ on := 9, ground := .data }], guard := none }) rfl (fun K' hK => ?_) (AllReadyH.nil))
  · go_simp
    refine hK.out _ _ hS (fun hS => ?_)
    clear hK K'
    try simp only [Act.put, List.setIfInBounds_toArray, List.set_cons_zero, List.set_cons_succ]
    refine wpAnyH_ready (rs := [10]) (by kernel_rfl) (by simp) ?_
    refine AllReadyH.cons (o := { dst := some 57, op := .buildSlice 64 1 #[(0, .tmp 56)], type := 64, pos := "gather.go:35", after := #[{ on := 9, ground := .data }], guard := none }) rfl (fun K' hK => ?_) (AllReadyH.nil)
    go_simp
    refine hK.out _ _ HSA.out (fun hS => ?_)
    clear hK K'
    try simp only [Act.put, List.setIfInBounds_toArray, List.set_cons_zero, List.set_cons_succ]
    refine wpAnyH_ready (rs := [11]) (by kernel_rfl) (by simp) ?_
    refine AllReadyH.cons (o := { dst := some 58, op := .call { callee := .builtin .append, args := #[.tmp 51, .tmp 57], argTypes := #[64, 64] }, type := 64, pos := "gather.go:35", after := #[{ on := 4, ground := .data }, { on := 10, ground := .data }], guard := none }) rfl (fun K' hK => ?_) (AllReadyH.nil)
    refine app_step tyV rfl (.tmp 51) (.tmp 57) rfl (A := p.A2) (c := p.d2) rfl hCA.out.o2 (X := some ⟨V.heap.size, 0, none⟩) (m := 1) (cx := 1) rfl (src_new V #[.int .i64 ty, .bool mu] 101 _ rfl) (by simp [Value.oneCell']) (by omega) hCA.out.hL ?_
    intro A2 c2 W2 ho2 hg2 hob2
    have HP := Lib.hid (hCA.out.push2 (ys := [(ty, mu)]) rfl (by simpa [vv] using ho2) hg2 hob2)
    have HS2 := Lib.hid (HSG.out W2 hg2)
    clear ho2 hg2 hob2 hc hcA
    have hc2 : W2.cell? ⟨M, 2, none⟩ = some (.slice p.A2 c.globs.length p.d2) := by rw [HP.out.cell]; rfl
    have hz2 := HP.out.free
    refine hK.out _ _ HS2.out.1 (fun hS => ?_)
    clear hK K'
    try simp only [Act.put, List.setIfInBounds_toArray, List.set_cons_zero, List.set_cons_succ]
    refine wpAnyH_take (i := 12) (oi := { dst := some 59, op := .nilCheck (.tmp 47), type := 0, pos := "gather.go:35", after := #[{ on := 0, ground := .data }, { on := 0, ground := .phase }, { on := 1, ground := .phase }, { on := 2, ground := .phase }, { on := 3, ground := .phase }, { on := 4, ground := .phase }, { on := 5, ground := .phase }, { on := 6, ground := .phase }, { on := 7, ground := .phase }, { on := 8, ground := .phase }, { on := 9, ground := .phase }, { on := 10, ground := .phase }, { on := 11, ground := .phase }], guard := none }) (v := ?_) rfl (by kernel_rfl) (by kernel_rfl) (by kernel_rfl) (fun _ _ _ h => h) (Or.inl ⟨by rfl, ?_⟩) hS ?_
    rotate_left
    · (intro w' hS'; obtain ⟨s2, s3, s4, s5, s6, s7⟩ := hS'; go_simp) <;> with_reducible rfl
    try simp only [Act.put, List.setIfInBounds_toArray, List.set_cons_zero, List.set_cons_succ]
    refine wpAnyH_take (i := 13) (oi := { dst := some 60, op := .fieldAddr 66 (.tmp 59) 2, type := 0, pos := "gather.go:35", after := #[{ on := 12, ground := .data }, { on := 0, ground := .phase }, { on := 1, ground := .phase }, { on := 2, ground := .phase }, { on := 3, ground := .phase }, { on := 4, ground := .phase }, { on := 5, ground := .phase }, { on := 6, ground := .phase }, { on := 7, ground := .phase }, { on := 8, ground := .phase }, { on := 9, ground := .phase }, { on := 10, ground := .phase }, { on := 11, ground := .phase }], guard := none }) (v := ?_) rfl (by kernel_rfl) (by kernel_rfl) (by kernel_rfl) (fun _ _ _ h => h) (Or.inl ⟨by rfl, ?_⟩) hS ?_
    rotate_left
    · (intro w' hS'; obtain ⟨s2, s3, s4, s5, s6, s7⟩ := hS'; go_simp) <;> with_reducible rfl
    try simp only [Act.put, List.setIfInBounds_toArray, List.set_cons_zero, List.set_cons_succ]
    refine wpAnyH_ready (rs := [14]) (by kernel_rfl) (by simp) ?_
    refine AllReadyH.cons (o := { dst := none, op := .store 64 (.tmp 60) (.tmp 58), type := 0, pos := "gather.go:35", after := #[{ on := 13, ground := .data }, { on := 11, ground := .data }, { on := 11, ground := .chain }, { on := 0, ground := .phase }, { on := 1, ground := .phase }, { on := 2, ground := .phase }, { on := 3, ground := .phase }, { on := 4, ground := .phase }, { on := 5, ground := .phase }, { on := 6, ground := .phase }, { on := 7, ground := .phase }, { on := 8, ground := .phase }, { on := 9, ground := .phase }, { on := 10, ground := .phase }, { on := 11, ground := .phase }], guard := none }) rfl (fun K' hK => ?_) (AllReadyH.nil)
    go_simp
    refine hK.out _ _ (HS2.out.2 _) (fun hS => ?_)
    clear hK K'
    try simp only [Act.put, List.setIfInBounds_toArray, List.set_cons_zero, List.set_cons_succ]
    refine wpAnyH_done (by kernel_rfl) ?_ _
    go_wp2
    refine bodyPost_end (v := .tuple #[]) (by simp [results, Try.results39, go_sem]) rfl ?_
    exact ⟨rfl, HP.out.st, HB.out.mono (Nat.le_of_lt HM.out) |>.trans ((HBA.out.mono (Nat.le_trans (Nat.le_of_lt HM.out) HB.out.size)).trans HP.out.below)⟩
  · go_simp
    refine hK.out _ _ HSA.out (fun hS => ?_)
    clear hK K'
    try simp only [Act.put, List.setIfInBounds_toArray, List.set_cons_zero, List.set_cons_succ]
    refine wpAnyH_ready (rs := [4]) (by kernel_rfl) (by simp) ?_
    refine AllReadyH.cons (o := { dst := some 51, op := .load 64 (.tmp 50), type := 64, pos := "gather.go:35", after := #[{ on := 3, ground := .data }], guard := none }) rfl (fun K' hK => ?_) (AllReadyH.nil)
    go_simp
    refine hK.out _ _ hS (fun hS => ?_)
    clear hK K'
    try simp only [Act.put, List.setIfInBounds_toArray, List.set_cons_zero, List.set_cons_succ]
    refine wpAnyH_ready (rs := [11]) (by kernel_rfl) (by simp) ?_
    refine AllReadyH.cons (o := { dst := some 58, op := .call { callee := .builtin .append, args := #[.tmp 51, .tmp 57], argTypes := #[64, 64] }, type := 64, pos := "gather.go:35", after := #[{ on := 4, ground := .data }, { on := 10, ground := .data }], guard := none }) rfl (fun K' hK => ?_) (AllReadyH.nil)
    refine app_step tyV rfl (.tmp 51) (.tmp 57) rfl (A := p.A2) (c := p.d2) rfl hCA.out.o2 (X := some ⟨V.heap.size, 0, none⟩) (m := 1) (cx := 1) rfl (src_new V #[.int .i64 ty, .bool mu] 101 _ rfl) (by simp [Value.oneCell']) (by omega) hCA.out.hL ?_
    intro A2 c2 W2 ho2 hg2 hob2
    have HP := Lib.hid (hCA.out.push2 (ys := [(ty, mu)]) rfl (by simpa [vv] using ho2) hg2 hob2)
    have HS2 := Lib.hid (HSG.out W2 hg2)
    clear ho2 hg2 hob2 hc hcA
    have hc2 : W2.cell? ⟨M, 2, none⟩ = some (.slice p.A2 c.globs.length p.d2) := by rw [HP.out.cell]; rfl
    have hz2 := HP.out.free
    refine hK.out _ _ HS2.out.1 (fun hS => ?_)
    clear hK K'
    try simp only [Act.put, List.setIfInBounds_toArray, List.set_cons_zero, List.set_cons_succ]
    refine wpAnyH_take (i := 12) (oi := { dst := some 59, op := .nilCheck (.tmp 47), type := 0, pos := "gather.go:35", after := #[{ on := 0, ground := .data }, { on := 0, ground := .phase }, { on := 1, ground := .phase }, { on := 2, ground := .phase }, { on := 3, ground := .phase }, { on := 4, ground := .phase }, { on := 5, ground := .phase }, { on := 6, ground := .phase }, { on := 7, ground := .phase }, { on := 8, ground := .phase }, { on := 9, ground := .phase }, { on := 10, ground := .phase }, { on := 11, ground := .phase }], guard := none }) (v := ?_) rfl (by kernel_rfl) (by kernel_rfl) (by kernel_rfl) (fun _ _ _ h => h) (Or.inl ⟨by rfl, ?_⟩) hS ?_
    rotate_left
    · (intro w' hS'; obtain ⟨s2, s3, s4, s5, s6, s7⟩ := hS'; go_simp) <;> with_reducible rfl
    try simp only [Act.put, List.setIfInBounds_toArray, List.set_cons_zero, List.set_cons_succ]
    refine wpAnyH_take (i := 13) (oi := { dst := some 60, op := .fieldAddr 66 (.tmp 59) 2, type := 0, pos := "gather.go:35", after := #[{ on := 12, ground := .data }, { on := 0, ground := .phase }, { on := 1, ground := .phase }, { on := 2, ground := .phase }, { on := 3, ground := .phase }, { on := 4, ground := .phase }, { on := 5, ground := .phase }, { on := 6, ground := .phase }, { on := 7, ground := .phase }, { on := 8, ground := .phase }, { on := 9, ground := .phase }, { on := 10, ground := .phase }, { on := 11, ground := .phase }], guard := none }) (v := ?_) rfl (by kernel_rfl) (by kernel_rfl) (by kernel_rfl) (fun _ _ _ h => h) (Or.inl ⟨by rfl, ?_⟩) hS ?_
    rotate_left
    · (intro w' hS'; obtain ⟨s2, s3, s4, s5, s6, s7⟩ := hS'; go_simp) <;> with_reducible rfl
    try simp only [Act.put, List.setIfInBounds_toArray, List.set_cons_zero, List.set_cons_succ]
    refine wpAnyH_ready (rs := [14]) (by kernel_rfl) (by simp) ?_
    refine AllReadyH.cons (o := { dst := none, op := .store 64 (.tmp 60) (.tmp 58), type := 0, pos := "gather.go:35", after := #[{ on := 13, ground := .data }, { on := 11, ground := .data }, { on := 11, ground := .chain }, { on := 0, ground := .phase }, { on := 1, ground := .phase }, { on := 2, ground := .phase }, { on := 3, ground := .phase }, { on := 4, ground := .phase }, { on := 5, ground := .phase }, { on := 6, ground := .phase }, { on := 7, ground := .phase }, { on := 8, ground := .phase }, { on := 9, ground := .phase }, { on := 10, ground := .phase }, { on := 11, ground := .phase }], guard := none }) rfl (fun K' hK => ?_) (AllReadyH.nil)
    go_simp
    refine hK.out _ _ (HS2.out.2 _) (fun hS => ?_)
    clear hK K'
    try simp only [Act.put, List.setIfInBounds_toArray, List.set_cons_zero, List.set_cons_succ]
    refine wpAnyH_done (by kernel_rfl) ?_ _
    go_wp2
    refine bodyPost_end (v := .tuple #[]) (by simp [results, Try.results39, go_sem]) rfl ?_
    exact ⟨rfl, HP.out.st, HB.out.mono (Nat.le_of_lt HM.out) |>.trans ((HBA.out.mono (Nat.le_trans (Nat.le_of_lt HM.out) HB.out.size)).trans HP.out.below)⟩
set_option maxRecDepth 100000 in
set_option maxHeartbeats 4000000 in
theorem addI_no (h : CS W L M okT p c) (kind : Int) (h0 : kind ≠ 0) (h1 : kind ≠ 1) (h2 : kind ≠ 2) (h3 : kind ≠ 3) : Calls Try.prog 39 #[.pointer (some ⟨M, 0, none⟩), .agg #[.string md, .string nm, .int .i64 kind, .int .i64 ty, .int .i64 mn, .bool cp, .int .i64 mx, .bool mu]] W (AddIs W L M okT p c) := by
  go_enter Try.func39, Try.ntmps39
  go_wp2
  refine bodyPost_end (v := .tuple #[]) (by simp [results, Try.results39, go_sem]) rfl ?_
  have hb : Below W.heap.size W (W.alloc (.cells #[.string md, .string nm, .int .i64 kind, .int .i64 ty, .int .i64 mn, .bool cp, .int .i64 mx, .bool mu] 72)) := (Below.refl _ _).alloc (Nat.le_refl _) _
  have hMs : M < W.heap.size := by have := h.lt; have := h.hL; omega
  exact ⟨rfl, ⟨p, h.below hb, rfl, rfl⟩, hb.mono (by omega)⟩
end
def Few (c : GCtx) (n : Nat) : Prop := c.funcs.length ≤ n ∧ c.globs.length ≤ n ∧ c.tabs.length ≤ n ∧ c.mems.length ≤ n
theorem few_add {c : GCtx} {n : Nat} (h : Few c n) (x : GImp) : Few (addI c x) (n + 1) := by
  obtain ⟨h1, h2, h3, h4⟩ := h
  unfold addI
  repeat' split
  all_goals refine ⟨?_, ?_, ?_, ?_⟩ <;> (try simp only [List.length_append, List.length_cons, List.length_nil]) <;> omega
theorem addImport_any {W : World} {L M : Nat} {okT : Nat → Prop} {p : Plc} {c : GCtx} (h : CS W L M okT p c) (hn : Few c 1000) (x : GImp) : Calls Try.prog 39 #[.pointer (some ⟨M, 0, none⟩), .agg #[.string x.md, .string x.nm, .int .i64 x.kind, .int .i64 x.ty, .int .i64 x.lim.1, .bool x.lim.2.1, .int .i64 x.lim.2.2, .bool x.mu]] W (AddIs W L M okT p (addI c x)) := by
  obtain ⟨md, nm, kind, ty, ⟨mn, cp, mx⟩, mu⟩ := x
  unfold addI
  by_cases h0 : kind = 0
  · subst h0; simpa using addI_0 md nm ty mn cp mx mu h hn.1
  by_cases h1 : kind = 1
  · subst h1; simpa using addI_1 md nm ty mn cp mx mu h hn.2.2.1
  by_cases h2 : kind = 2
  · subst h2; simpa using addI_2 md nm ty mn cp mx mu h hn.2.2.2
  by_cases h3 : kind = 3
  · subst h3; simpa using addI_3 md nm ty mn cp mx mu h hn.2.1
  · simp only [h0, h1, h2, h3, if_false]; exact addI_no md nm ty mn cp mx mu h kind h0 h1 h2 h3
end Go.Proofs.Ytdcolpmmojiffaa.Cx
