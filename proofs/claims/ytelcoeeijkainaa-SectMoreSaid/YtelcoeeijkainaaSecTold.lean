/-
  trammellaw07.told: the same sections. Condition: the slice leads to sections, at most 100000. (Written by wip/tools/gencopy.py.)
-/
import Derived.Test.YtelcoeeijkainaaSecSlc
import Derived.Deep.RegionHeld3
import Derived.Deep.RegionHeldLaw
namespace Go.Proofs.Ytelcoeeijkainaa.Sec
open Go.RowKit Leb

section
variable {w : World} {ops : Array Oper} {o : Oper} {a : Act} {K : Act → World → Prop} {Q : Exit → Act → World → Prop} {E : Prop} {t et : TypeId} (T : Ty t et)
include T
set_option maxRecDepth 100000 in
theorem app_secq (hg : o.guard = none) (s x : Operand) (ho : o.op = .call { callee := .builtin .append, args := #[s, x], argTypes := #[t, t] })
    (base : Nat) (v : Value) (es : List Ent) (hs : a.eval s = v) (hown : OwnX w et base v es) (b off : Nat) (es' : List Ent) (m c B k : Nat) (hm : es'.length = m) (hx : a.eval x = .slice (some ⟨b, off, none⟩) m c) (hr : RowE w B (some ⟨b, off, none⟩) es')
    (hk : (es ++ es').length = k) (hlen : k ≤ 1000000) (hbase : base ≤ w.heap.size)
    (h : ∀ A' c' w', OwnX w' et base (.slice A' k c') (es ++ es') → w.grownBy w' v.ownBlock → ((Value.slice A' k c').ownBlock = v.ownBlock ∨ (Value.slice A' k c').ownBlock = some w.heap.size) → K (a.put o.dst (.slice A' k c')) w') :
    if Region.wanted o (yielded ops a.tmps) = true then Oper.wp Try.prog o a w K Q else E := by
  rw [if_pos (by simp [Region.wanted, hg])]
  obtain ⟨i0, hi0, hz0, hz1, hz2⟩ := info_parts T.info
  subst hm hk
  simp only [List.length_append] at hlen
  obtain ⟨v', w', hrun, h2, h3, h4, h5⟩ := run_append_own_at (P := Try.prog) w base t o.type et i0 _ 2 32 T.und hi0 hz0 hz1 hz2 rfl (by omega) v es.length (els es) hown ⟨b, off, none⟩ es'.length c (els es') (els_len es') (cells_of hr) (els_one es') (by simp only [maxLen]; omega) (by omega) hbase
  unfold Oper.wp execOp
  simp only [ho, resolve, invoke, builtin, Sem.run_bind, Sem.run_pure, Result.andThen_ok, List.map_toArray, List.map_cons, List.map_nil, hs, hx, hrun]
  have ho' : OwnX w' et base v' (es ++ es') := by
    unfold OwnX
    rw [List.length_append, els_app]
    exact h2
  obtain ⟨A', c', rfl, _, _, _⟩ := ho'.row
  exact h A' c' w' ho' h3 h5
end
def ToldIs (w : World) (l : List Sec) (n : Nat) (e : Ending) (w' : World) : Prop := ∃ A c, e = .returned (.slice A n c) ∧ Sli w' w'.heap.size A c l ∧ Below w.heap.size w w'
set_option maxHeartbeats 4000000 in
set_option maxRecDepth 100000 in
theorem told_any (A : Option Addr) (l : List Sec) (c : Nat) (w : World) (hs : Sli w w.heap.size A c l) (hn : (l.length : Int) ≤ 100000) : Calls Try.prog 11 #[.slice A l.length c] w (ToldIs w l l.length) := by
  have HS := Lib.hid hs
  clear hs
  go_enter Try.func11, Try.ntmps11
  go_wp2_with fail
  go_loopw [3, 4] (fun x3 x4 wr => ∃ (j : Nat) (lv : Value) (es : List Ent), j ≤ l.length ∧ x3 = lv ∧ x4 = .int .i64 (j : Int) ∧ LS w wr 36 none lv es ∧ Hid (es.map (fun e : Ent => e.1) = l.take j)) (fun _ i _ => l.length - (intOf i).toNat)
  case atStart => exact ⟨0, _, [], Nat.zero_le _, rfl, by go_num, ls_nil w w _ none (Below.refl _ _) (by simp), Lib.hid (by simp)⟩
  case round =>
    obtain ⟨j, lv, es, hj, rfl, rfl, hls, HE⟩ := hrel
    obtain ⟨A1, c1, hlv, hsli⟩ := hls.sli
    by_cases hjl : j < l.length
    · have hji : (j : Int) < (l.length : Int) := by omega
      obtain ⟨b, off, rfl, hbB, hc⟩ := HS.out.secs (by omega)
      obtain ⟨SA, sc, q0, q1, q2, q3, q4⟩ := hc j hjl
      have hel : es.length = j := by have := congrArg List.length HE.out; simpa [Nat.min_eq_left (Nat.le_of_lt hjl)] using this
      have x0 := (hls.below.cell (p := ⟨b, off + j * 2, none⟩) hbB).trans q0
      have x1 := (hls.below.cell (p := ⟨b, off + j * 2 + 1, none⟩) hbB).trans q1
      have hbw : b < wr.heap.size := Nat.lt_of_lt_of_le hbB hls.below.size
      have q5 : Bytes w w.heap.size SA l[j].b := q2
      have HEN : Hid (∀ (y : Option Addr) (v : Nat), (es ++ [((⟨l[j].id, l[j].b⟩ : Sec), y, v)]).map (fun e : Ent => e.1) = l.take (j + 1)) := Lib.hid fun y v => by
        rw [List.map_append, HE.out, List.take_succ_eq_append_getElem hjl]; rfl
      have HX := Lib.hid (And.intro q0 q1)
      subst hlv
      have HLS := Lib.hid hls
      generalize l[j].id = id at *
      generalize l[j].b = sb at *
      generalize hsn : sb.length = sn at *
      have HSN := Lib.hid hsn
      have hlab : lab wr wr.heap.size ((⟨id, sb⟩ : Sec), SA, sc) := ⟨(q5.below hls.below).more hls.below.size, by show sb.length ≤ sc; rw [HSN.out]; exact q3, q4⟩
      have hoff : OffB (Value.slice A1 es.length c1).ownBlock ((⟨id, sb⟩ : Sec), SA, sc) := by
        intro hl a ha e2
        obtain ⟨b2, o2, e3, hb2, _⟩ := q5.2 hl
        have h1 := (World.ownsRow.lt HLS.out.own _ e2).1
        simp only at ha
        rw [ha] at e3
        injection e3 with e3
        subst e3
        simp only at h1
        omega
      have HLAB := Lib.hid (And.intro hlab hoff)
      have HES : Hid ((es ++ [((⟨id, sb⟩ : Sec), SA, sc)]).length = j + 1) := Lib.hid (by rw [List.length_append, hel]; rfl)
      have hk : j + 1 ≤ 1000000 := by omega
      clear hc q0 q1 q2 q3 q4 q5 hlab hoff hls hsn hel hsli HE
      have hS : (wr.drew.cell? ⟨b, off + j * 2, none⟩ = some (.int .i64 id)) ∧ wr.drew.cell? ⟨b, off + j * 2 + 1, none⟩ = some (.slice SA sn sc) := ⟨x0, x1⟩
      go_wp2_with fail
      refine wp_region_held_drew (S := fun W => W.cell? ⟨b, off + j * 2, none⟩ = some (.int .i64 id) ∧ W.cell? ⟨b, off + j * 2 + 1, none⟩ = some (.slice SA sn sc)) (by kernel_rfl) hS (fun _ => ?_)
      clear x0 x1
      refine wpAnyH_take (i := 0) (oi := { dst := some 11, op := .move (.tmp 3), type := 28, pos := "law.go:23", after := #[], guard := none }) (v := ?_) rfl (by kernel_rfl) (by kernel_rfl) (by kernel_rfl) (fun _ _ _ h => h) (Or.inl ⟨by rfl, ?_⟩) hS ?_
      rotate_left
      · (intro w' ⟨d0, d1⟩; go_simp) <;> with_reducible rfl
      try simp only [Act.put, List.setIfInBounds_toArray, List.set_cons_zero, List.set_cons_succ]
      refine wpAnyH_take (i := 1) (oi := { dst := some 12, op := .move (.tmp 0), type := 24, pos := "law.go:23", after := #[], guard := none }) (v := ?_) rfl (by kernel_rfl) (by kernel_rfl) (by kernel_rfl) (fun _ _ _ h => h) (Or.inl ⟨by rfl, ?_⟩) hS ?_
      rotate_left
      · (intro w' ⟨d0, d1⟩; go_simp) <;> with_reducible rfl
      try simp only [Act.put, List.setIfInBounds_toArray, List.set_cons_zero, List.set_cons_succ]
      refine wpAnyH_take (i := 2) (oi := { dst := some 13, op := .move (.tmp 4), type := 3, pos := "law.go:23", after := #[], guard := none }) (v := ?_) rfl (by kernel_rfl) (by kernel_rfl) (by kernel_rfl) (fun _ _ _ h => h) (Or.inl ⟨by rfl, ?_⟩) hS ?_
      rotate_left
      · (intro w' ⟨d0, d1⟩; go_simp) <;> with_reducible rfl
      try simp only [Act.put, List.setIfInBounds_toArray, List.set_cons_zero, List.set_cons_succ]
      refine wpAnyH_take (i := 3) (oi := { dst := some 14, op := .indexAddr 24 (.tmp 12) (.tmp 13), type := 0, pos := "law.go:23", after := #[{ on := 1, ground := .data }, { on := 2, ground := .data }], guard := none }) (v := ?_) rfl (by kernel_rfl) (by kernel_rfl) (by kernel_rfl) (fun _ _ _ h => h) (Or.inl ⟨by rfl, ?_⟩) hS ?_
      rotate_left
      · (intro w' ⟨d0, d1⟩; go_simp) <;> with_reducible rfl
      try simp only [Act.put, List.setIfInBounds_toArray, List.set_cons_zero, List.set_cons_succ]
      refine wpAnyH_take (i := 4) (oi := { dst := some 15, op := .fieldAddr 37 (.tmp 14) 0, type := 0, pos := "law.go:23", after := #[{ on := 3, ground := .data }], guard := none }) (v := ?_) rfl (by kernel_rfl) (by kernel_rfl) (by kernel_rfl) (fun _ _ _ h => h) (Or.inl ⟨by rfl, ?_⟩) hS ?_
      rotate_left
      · (intro w' ⟨d0, d1⟩; go_simp) <;> with_reducible rfl
      try simp only [Act.put, List.setIfInBounds_toArray, List.set_cons_zero, List.set_cons_succ]
      refine wpAnyH_take (i := 5) (oi := { dst := some 16, op := .load 3 (.tmp 15), type := 3, pos := "law.go:23", after := #[{ on := 4, ground := .data }], guard := none }) (v := ?_) rfl (by kernel_rfl) (by kernel_rfl) (by kernel_rfl) (fun _ _ _ h => h) (Or.inl ⟨by rfl, ?_⟩) hS ?_
      rotate_left
      · (intro w' ⟨d0, d1⟩; go_simp) <;> with_reducible rfl
      try simp only [Act.put, List.setIfInBounds_toArray, List.set_cons_zero, List.set_cons_succ]
      refine wpAnyH_take (i := 6) (oi := { dst := some 17, op := .move (.tmp 0), type := 24, pos := "law.go:23", after := #[], guard := none }) (v := ?_) rfl (by kernel_rfl) (by kernel_rfl) (by kernel_rfl) (fun _ _ _ h => h) (Or.inl ⟨by rfl, ?_⟩) hS ?_
      rotate_left
      · (intro w' ⟨d0, d1⟩; go_simp) <;> with_reducible rfl
      try simp only [Act.put, List.setIfInBounds_toArray, List.set_cons_zero, List.set_cons_succ]
      refine wpAnyH_take (i := 7) (oi := { dst := some 18, op := .move (.tmp 4), type := 3, pos := "law.go:23", after := #[], guard := none }) (v := ?_) rfl (by kernel_rfl) (by kernel_rfl) (by kernel_rfl) (fun _ _ _ h => h) (Or.inl ⟨by rfl, ?_⟩) hS ?_
      rotate_left
      · (intro w' ⟨d0, d1⟩; go_simp) <;> with_reducible rfl
      try simp only [Act.put, List.setIfInBounds_toArray, List.set_cons_zero, List.set_cons_succ]
      refine wpAnyH_take (i := 8) (oi := { dst := some 19, op := .indexAddr 24 (.tmp 17) (.tmp 18), type := 0, pos := "law.go:23", after := #[{ on := 6, ground := .data }, { on := 7, ground := .data }], guard := none }) (v := ?_) rfl (by kernel_rfl) (by kernel_rfl) (by kernel_rfl) (fun _ _ _ h => h) (Or.inl ⟨by rfl, ?_⟩) hS ?_
      rotate_left
      · (intro w' ⟨d0, d1⟩; go_simp) <;> with_reducible rfl
      try simp only [Act.put, List.setIfInBounds_toArray, List.set_cons_zero, List.set_cons_succ]
      refine wpAnyH_take (i := 9) (oi := { dst := some 20, op := .fieldAddr 37 (.tmp 19) 1, type := 0, pos := "law.go:23", after := #[{ on := 8, ground := .data }], guard := none }) (v := ?_) rfl (by kernel_rfl) (by kernel_rfl) (by kernel_rfl) (fun _ _ _ h => h) (Or.inl ⟨by rfl, ?_⟩) hS ?_
      rotate_left
      · (intro w' ⟨d0, d1⟩; go_simp) <;> with_reducible rfl
      try simp only [Act.put, List.setIfInBounds_toArray, List.set_cons_zero, List.set_cons_succ]
      refine wpAnyH_take (i := 10) (oi := { dst := some 21, op := .load 22 (.tmp 20), type := 22, pos := "law.go:23", after := #[{ on := 9, ground := .data }], guard := none }) (v := ?_) rfl (by kernel_rfl) (by kernel_rfl) (by kernel_rfl) (fun _ _ _ h => h) (Or.inl ⟨by rfl, ?_⟩) hS ?_
      rotate_left
      · (intro w' ⟨d0, d1⟩; go_simp) <;> with_reducible rfl
      try simp only [Act.put, List.setIfInBounds_toArray, List.set_cons_zero, List.set_cons_succ]
      refine wpAnyH_take (i := 11) (oi := { dst := some 22, op := .build 36 #[(0, .tmp 16), (1, .tmp 21)], type := 36, pos := "law.go:23", after := #[{ on := 5, ground := .data }, { on := 10, ground := .data }], guard := none }) (v := ?_) rfl (by kernel_rfl) (by kernel_rfl) (by kernel_rfl) (fun _ _ _ h => h) (Or.inl ⟨by rfl, ?_⟩) hS ?_
      rotate_left
      · (intro w' ⟨d0, d1⟩; go_simp) <;> with_reducible rfl
      try simp only [Act.put, List.setIfInBounds_toArray, List.set_cons_zero, List.set_cons_succ]
      refine wpAnyH_ready (rs := [12]) (by kernel_rfl) (by simp) ?_
      refine AllReadyH.cons (o := { dst := some 23, op := .buildSlice 28 1 #[(0, .tmp 22)], type := 28, pos := "law.go:23", after := #[{ on := 11, ground := .data }], guard := none }) rfl (fun K hK => ?_) AllReadyH.nil
      go_simp
      have hbA : Below wr.heap.size wr (wr.alloc (.cells #[.int .i64 id, .slice SA sn sc] 36)).drew := ((Below.refl _ _).alloc (Nat.le_refl _) _).drew
      have hS2 : ((wr.alloc (.cells #[.int .i64 id, .slice SA sn sc] 36)).drew.cell? ⟨b, off + j * 2, none⟩ = some (.int .i64 id)) ∧ (wr.alloc (.cells #[.int .i64 id, .slice SA sn sc] 36)).drew.cell? ⟨b, off + j * 2 + 1, none⟩ = some (.slice SA sn sc) := ⟨(hbA.cell (p := ⟨b, off + j * 2, none⟩) hbw).trans hS.1, (hbA.cell (p := ⟨b, off + j * 2 + 1, none⟩) hbw).trans hS.2⟩
      have HL2 := Lib.hid (HLS.out.keep hbA)
      have HLAB2 := Lib.hid ((HLAB.out.1.below hbA).more hbA.size)
      have HROW := Lib.hid (rowE_lit wr 36 [((⟨id, sb⟩ : Sec), SA, sc)] #[.int .i64 id, .slice SA sn sc] 1 (by simp [els, el, HSN.out]) rfl (by simp [maxLen]))
      have hbase := HL2.out.below.size
      refine hK.out _ _ hS2 (fun _ => ?_)
      clear hK K
      try simp only [Act.put, List.setIfInBounds_toArray, List.set_cons_zero, List.set_cons_succ]
      refine wpAnyH_ready (rs := [13]) (by kernel_rfl) (by simp) ?_
      refine AllReadyH.cons (o := { dst := some 24, op := .call { callee := .builtin .append, args := #[.tmp 11, .tmp 23], argTypes := #[28, 28] }, type := 28, pos := "law.go:23", after := #[{ on := 0, ground := .data }, { on := 12, ground := .data }], guard := none }) rfl (fun K hK => ?_) AllReadyH.nil
      refine app_secq tyR rfl (.tmp 11) (.tmp 23) rfl w.heap.size _ es rfl HL2.out.own wr.heap.size 0 [((⟨id, sb⟩ : Sec), SA, sc)] 1 1 _ (j + 1) rfl rfl HROW.out HES.out hk hbase ?_
      intro A6 c6 w6 hown6 hg6 hob6
      have hls6 := HL2.out.more HLAB2.out HLAB.out.2 (by simp) hown6 hg6 hob6
      have hS3 : (w6.cell? ⟨b, off + j * 2, none⟩ = some (.int .i64 id)) ∧ w6.cell? ⟨b, off + j * 2 + 1, none⟩ = some (.slice SA sn sc) := ⟨(hls6.below.cell (p := ⟨b, off + j * 2, none⟩) hbB).trans HX.out.1, (hls6.below.cell (p := ⟨b, off + j * 2 + 1, none⟩) hbB).trans HX.out.2⟩
      refine hK.out _ _ hS3 (fun _ => ?_)
      clear hK K
      try simp only [Act.put, List.setIfInBounds_toArray, List.set_cons_zero, List.set_cons_succ]
      refine wpAnyH_take (i := 14) (oi := { dst := some 3, op := .assign (.tmp 24), type := 28, pos := "law.go:23", after := #[{ on := 13, ground := .data }, { on := 13, ground := .chain }, { on := 0, ground := .phase }, { on := 1, ground := .phase }, { on := 2, ground := .phase }, { on := 3, ground := .phase }, { on := 4, ground := .phase }, { on := 5, ground := .phase }, { on := 6, ground := .phase }, { on := 7, ground := .phase }, { on := 8, ground := .phase }, { on := 9, ground := .phase }, { on := 10, ground := .phase }, { on := 11, ground := .phase }, { on := 12, ground := .phase }, { on := 13, ground := .phase }], guard := none }) (v := ?_) rfl (by kernel_rfl) (by kernel_rfl) (by kernel_rfl) (fun _ _ _ h => h) (Or.inl ⟨by rfl, ?_⟩) hS3 ?_
      rotate_left
      · (intro w' ⟨d0, d1⟩; go_simp) <;> with_reducible rfl
      try simp only [Act.put, List.setIfInBounds_toArray, List.set_cons_zero, List.set_cons_succ]
      refine wpAnyH_done (by kernel_rfl) ?_ _
      go_wp2
      go_roundw
      case rel => exact ⟨j + 1, _, _, by omega, rfl, by go_num, hls6, Lib.hid (HEN.out SA sc)⟩
      case measure => simp [intOf]; omega
    · obtain rfl : j = l.length := by omega
      have hji : ¬ (l.length : Int) < (l.length : Int) := by omega
      have he := HE.out
      rw [List.take_length] at he
      have hel : es.length = l.length := by rw [← he]; simp
      rw [he] at hsli
      rw [hel] at hlv
      have HF := Lib.hid (And.intro hsli hls.below)
      subst hlv
      clear hls hsli he HE HS hel
      go_wp2
      go_ret
      exact ⟨A1, c1, rfl, HF.out.1, HF.out.2⟩
end Go.Proofs.Ytelcoeeijkainaa.Sec
