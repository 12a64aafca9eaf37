/-
  trammellaw07.SectJoins returns true. Condition: the slice leads to sections. (Written by wip/tools/genjoins.py.)
-/
import Derived.Test.YtelcoeeijkainaaSecSplitsLaw
import Derived.Deep.RegionHeld3
import Derived.Deep.RegionHeldLaw
namespace Go.Proofs.Ytelcoeeijkainaa.Sec
open Go.RowKit Leb

theorem short_parts {l : List Sec} (h : shortS l = true) : l.length ≤ 40 ∧ (∀ s ∈ l, s.b.length ≤ 70000) ∧ (joinBytes l).length ≤ 80448 + l.length * 0 := by
  have h0 := of_decide_eq_true h
  have key : ∀ l : List Sec, (secsBytes l).length ≤ sumB l + l.length * 11 := by
    intro l
    induction l with
    | nil => simp [secsBytes]
    | cons s l ih =>
      have hp := (putUf_len 9 s.b.length).2
      have e : (secsBytes (s :: l)).length = (1 + ((putU s.b.length).length + s.b.length)) + (secsBytes l).length := by simp [secsBytes, secBytes]; omega
      have e2 : sumB (s :: l) = s.b.length + sumB l := by simp [sumB]
      rw [e, e2]
      simp only [List.length_cons]
      have : (putU s.b.length).length ≤ 10 := hp
      omega
  have h1 := key l
  have h2 : (joinBytes l).length = 8 + (secsBytes l).length := by unfold joinBytes; rw [List.length_append]; rfl
  obtain ⟨⟨h3, h4⟩, h5⟩ := h0
  exact ⟨h3, h4, by omega⟩
theorem joinRes_cases (l : List Sec) (hb : ∀ s ∈ l, s.b.length ≤ 70000) : ((joinRes l).2 ≠ 0 ∧ (joinRes l).1 = []) ∨ ((joinRes l).2 = 0 ∧ splitRes (joinRes l).1 = (l, 0)) := by
  unfold joinRes
  by_cases h1 : order l = false
  · rw [if_pos h1]; exact .inl ⟨by simp, rfl⟩
  · rw [if_neg h1]
    by_cases h2 : 65536 < (joinBytes l).length
    · rw [if_pos h2]; exact .inl ⟨by simp, rfl⟩
    · rw [if_neg h2]
      exact .inr ⟨rfl, split_join l (by simpa using h1) (by omega) (fun s hs => by have := hb s hs; omega)⟩
theorem joinRes_len (l : List Sec) : (joinRes l).1.length ≤ 65536 := by
  unfold joinRes
  split
  · simp
  · split
    · simp
    · simp only; omega
set_option maxHeartbeats 4000000 in
set_option maxRecDepth 100000 in
theorem joins_no (A : Option Addr) (l : List Sec) (c : Nat) (w : World) (hs : Sli w w.heap.size A c l) (hsh : shortS l = false) :
    Calls Try.prog 4 #[.slice A l.length c] w fun e w' => e = .returned (.bool true) ∧ Below w.heap.size w w' := by
  have HA := Lib.hid (awake_any w)
  have HSH : Hid (∀ W, Below w.heap.size w W → Calls Try.prog 12 #[.slice A l.length c] W (Still W (.bool false))) := Lib.hid fun W hW => by
    have := rshort_any A l c w.heap.size W (hs.secs.below hW)
    rwa [hsh] at this
  clear hs hsh
  go_enter Try.func4, Try.ntmps4
  go_wp2_with fail
  refine HA.out.mono ?_
  rintro e w1 ⟨rfl, hb1⟩
  have HB1 := Lib.hid hb1
  go_wp2_with fail
  refine (HSH.out _ hb1).mono ?_
  rintro e w2 ⟨rfl, rfl⟩
  clear hb1
  go_wp2
  go_ret
  exact ⟨rfl, HB1.out⟩
set_option maxHeartbeats 4000000 in
set_option maxRecDepth 100000 in
theorem joins_yes (A : Option Addr) (l : List Sec) (c : Nat) (w : World) (hs : Sli w w.heap.size A c l) (hsh : shortS l = true) :
    Calls Try.prog 4 #[.slice A l.length c] w fun e w' => e = .returned (.bool true) ∧ Below w.heap.size w w' := by
  obtain ⟨h40, h7, hjb⟩ := short_parts hsh
  have HA := Lib.hid (awake_any w)
  have HSH : Hid (∀ W, Below w.heap.size w W → Calls Try.prog 12 #[.slice A l.length c] W (Still W (.bool true))) := Lib.hid fun W hW => by
    have := rshort_any A l c w.heap.size W (hs.secs.below hW)
    rwa [hsh] at this
  have hcase := joinRes_cases l h7
  have hjl := joinRes_len l
  have HJ : Hid (∀ W A1 c1, Sli W W.heap.size A1 c1 l → Calls Try.prog 13 #[.slice A1 l.length c1] W fun e w' => JoinIs W (joinRes l) (joinRes l).1.length e w') := Lib.hid fun W A1 c1 h => ojoin_any A1 l c1 W h (by omega) (by omega) (fun s hs => by have := h7 s hs; omega)
  have HRJ : Hid (∀ W, Sli W W.heap.size A c l → Calls Try.prog 14 #[.slice A l.length c] W fun e w' => JoinIs W (joinRes l) (joinRes l).1.length e w') := Lib.hid fun W h => rjoin_any A l c W h (by omega) (by omega) (fun s hs => by have := h7 s hs; omega)
  generalize joinRes l = R at *
  obtain ⟨bs, k⟩ := R
  simp only at hcase hjl
  obtain ⟨n, hn⟩ : ∃ n, bs.length = n := ⟨_, rfl⟩
  have HN := Lib.hid hn
  obtain ⟨ln, hln⟩ : ∃ ln, l.length = ln := ⟨_, rfl⟩
  have HBS : Hid (∀ W A1 c1 A2 c2, Slc W W.heap.size A1 c1 bs → Slc W W.heap.size A2 c2 bs → Calls Try.prog 15 #[.slice A1 n c1, .slice A2 n c2] W (QuietB W true)) := Lib.hid fun W A1 c1 A2 c2 h1 h2 => by
    have := same_any A1 A2 bs c1 c2 W.heap.size W.heap.size W h1.bytes h2.bytes (by omega)
    rwa [hn] at this
  have HT : Hid (∀ W A1 c1, Sli W W.heap.size A1 c1 l → Calls Try.prog 11 #[.slice A1 l.length c1] W (ToldIs W l l.length)) := Lib.hid fun W A1 c1 h => told_any A1 l c1 W h (by omega)
  have HSM : Hid (∀ W A1 c1 A2 c2, Sli W W.heap.size A1 c1 l → Sli W W.heap.size A2 c2 l → Calls Try.prog 10 #[.slice A1 l.length c1, .slice A2 l.length c2] W (QuietB W true)) := Lib.hid fun W A1 c1 A2 c2 h1 h2 => by
    have := rsec_same A1 A2 l l c1 c2 W h1.secs h2.secs (by omega) (fun s hs => by have := h7 s hs; omega) (fun s hs => by have := h7 s hs; omega)
    rwa [decide_eq_true rfl] at this
  have HSP : Hid (k = 0 → ∀ W A1 c1, Slc W W.heap.size A1 c1 bs → Calls Try.prog 8 #[.slice A1 n c1] W (SplitIs W (l, 0) l.length)) := Lib.hid fun h0 W A1 c1 h => by
    have hsp := (hcase.resolve_left (fun h => h.1 h0)).2
    have := osplit_any A1 bs c1 W h
    rwa [hsp, hn] at this
  have HE : Hid (k ≠ 0 → n = 0) := Lib.hid fun h0 => by
    have := (hcase.resolve_right (fun h => h0 h.1)).2
    rw [← hn, this]; rfl
  have H40 : Hid (l.length ≤ 40) := Lib.hid h40
  have HS0 := Lib.hid hs
  clear hs hsh h40 h7 hjb hcase hjl hn hln
  go_enter Try.func4, Try.ntmps4
  go_wp2_with fail
  refine HA.out.mono ?_
  rintro e w1 ⟨rfl, hb1⟩
  have HB1 := Lib.hid hb1
  have HS := Lib.hid ((HS0.out.below hb1).more hb1.size)
  go_wp2_with fail
  refine (HSH.out _ hb1).mono ?_
  rintro e w2 ⟨rfl, rfl⟩
  have hn40 : (l.length : Int) ≤ 40 := by have := H40.out; omega
  clear hb1 HA HSH HS0
  go_wp2_with fail
  go_loopw [3, 4] (fun x3 x4 wr => ∃ (j : Nat) (lv : Value) (es : List Ent), j ≤ l.length ∧ x3 = lv ∧ x4 = .int .i64 (j : Int) ∧ LS w1 wr 37 none lv es ∧ Hid (es.map (fun e : Ent => e.1) = l.take j)) (fun _ i _ => l.length - (intOf i).toNat)
  case atStart => exact ⟨0, _, [], Nat.zero_le _, rfl, by go_num, ls_nil w1 w1 _ none (Below.refl _ _) (by simp), Lib.hid (by simp)⟩
  case round =>
    obtain ⟨j, lv, es, hj, rfl, rfl, hls, HE2⟩ := hrel
    obtain ⟨A1, c1, hlv, hsli⟩ := hls.sli
    by_cases hjl : j < l.length
    · have hji : (j : Int) < (l.length : Int) := by omega
      clear HJ HRJ HBS HT HSM HSP HE
      obtain ⟨b, off, rfl, hbB, hc⟩ := HS.out.secs (by omega)
      obtain ⟨SA, sc, q0, q1, q2, q3, q4⟩ := hc j hjl
      have hel : es.length = j := by have := congrArg List.length HE2.out; simpa [Nat.min_eq_left (Nat.le_of_lt hjl)] using this
      have x0 := (hls.below.cell (p := ⟨b, off + j * 2, none⟩) hbB).trans q0
      have x1 := (hls.below.cell (p := ⟨b, off + j * 2 + 1, none⟩) hbB).trans q1
      have hbw : b < wr.heap.size := Nat.lt_of_lt_of_le hbB hls.below.size
      have q5 : Bytes w1 w1.heap.size SA l[j].b := q2
      have HEN : Hid (∀ (y : Option Addr) (v : Nat), (es ++ [((⟨l[j].id, l[j].b⟩ : Sec), y, v)]).map (fun e : Ent => e.1) = l.take (j + 1)) := Lib.hid fun y v => by
        rw [List.map_append, HE2.out, List.take_succ_eq_append_getElem hjl]; rfl
      have HX := Lib.hid (And.intro q0 q1)
      subst hlv
      have HLS := Lib.hid hls
      generalize l[j].id = id at *
      generalize l[j].b = sb at *
      generalize hsn : sb.length = sn at *
      have HSN := Lib.hid hsn
      have hlab : lab wr wr.heap.size ((⟨id, sb⟩ : Sec), SA, sc) := ⟨(q5.below hls.below).more hls.below.size, by show sb.length ≤ sc; rw [HSN.out]; exact q3, q4⟩
      have hoff : OffB (Value.slice A1 es.length c1).ownBlock ((⟨id, sb⟩ : Sec), SA, sc) := by
        intro hl a ha e2
        obtain ⟨b2, o2, e3, hb2, _⟩ := q5.2 hl
        have h1 := (World.ownsRow.lt HLS.out.own _ e2).1
        simp only at ha
        rw [ha] at e3
        injection e3 with e3
        subst e3
        simp only at h1
        omega
      have HLAB := Lib.hid (And.intro hlab hoff)
      have HES : Hid ((es ++ [((⟨id, sb⟩ : Sec), SA, sc)]).length = j + 1) := Lib.hid (by rw [List.length_append, hel]; rfl)
      have hk : j + 1 ≤ 1000000 := by omega
      clear hc q0 q1 q2 q3 q4 q5 hlab hoff hls hsn hel hsli HE2
      have hS : (wr.drew.cell? ⟨b, off + j * 2, none⟩ = some (.int .i64 id)) ∧ wr.drew.cell? ⟨b, off + j * 2 + 1, none⟩ = some (.slice SA sn sc) := ⟨x0, x1⟩
      go_wp2_with fail
      refine wp_region_held_drew (S := fun W => W.cell? ⟨b, off + j * 2, none⟩ = some (.int .i64 id) ∧ W.cell? ⟨b, off + j * 2 + 1, none⟩ = some (.slice SA sn sc)) (by kernel_rfl) hS (fun _ => ?_)
      clear x0 x1
      refine wpAnyH_take (i := 0) (oi := { dst := some 21, op := .move (.tmp 3), type := 24, pos := "law.go:49", after := #[], guard := none }) (v := ?_) rfl (by kernel_rfl) (by kernel_rfl) (by kernel_rfl) (fun _ _ _ h => h) (Or.inl ⟨by rfl, ?_⟩) hS ?_
      rotate_left
      · (intro w' ⟨d0, d1⟩; go_simp) <;> with_reducible rfl
      try simp only [Act.put, List.setIfInBounds_toArray, List.set_cons_zero, List.set_cons_succ]
      refine wpAnyH_take (i := 1) (oi := { dst := some 22, op := .move (.tmp 0), type := 28, pos := "law.go:49", after := #[], guard := none }) (v := ?_) rfl (by kernel_rfl) (by kernel_rfl) (by kernel_rfl) (fun _ _ _ h => h) (Or.inl ⟨by rfl, ?_⟩) hS ?_
      rotate_left
      · (intro w' ⟨d0, d1⟩; go_simp) <;> with_reducible rfl
      try simp only [Act.put, List.setIfInBounds_toArray, List.set_cons_zero, List.set_cons_succ]
      refine wpAnyH_take (i := 2) (oi := { dst := some 23, op := .move (.tmp 4), type := 3, pos := "law.go:49", after := #[], guard := none }) (v := ?_) rfl (by kernel_rfl) (by kernel_rfl) (by kernel_rfl) (fun _ _ _ h => h) (Or.inl ⟨by rfl, ?_⟩) hS ?_
      rotate_left
      · (intro w' ⟨d0, d1⟩; go_simp) <;> with_reducible rfl
      try simp only [Act.put, List.setIfInBounds_toArray, List.set_cons_zero, List.set_cons_succ]
      refine wpAnyH_take (i := 3) (oi := { dst := some 24, op := .indexAddr 28 (.tmp 22) (.tmp 23), type := 0, pos := "law.go:49", after := #[{ on := 1, ground := .data }, { on := 2, ground := .data }], guard := none }) (v := ?_) rfl (by kernel_rfl) (by kernel_rfl) (by kernel_rfl) (fun _ _ _ h => h) (Or.inl ⟨by rfl, ?_⟩) hS ?_
      rotate_left
      · (intro w' ⟨d0, d1⟩; go_simp) <;> with_reducible rfl
      try simp only [Act.put, List.setIfInBounds_toArray, List.set_cons_zero, List.set_cons_succ]
      refine wpAnyH_take (i := 4) (oi := { dst := some 25, op := .fieldAddr 36 (.tmp 24) 0, type := 0, pos := "law.go:49", after := #[{ on := 3, ground := .data }], guard := none }) (v := ?_) rfl (by kernel_rfl) (by kernel_rfl) (by kernel_rfl) (fun _ _ _ h => h) (Or.inl ⟨by rfl, ?_⟩) hS ?_
      rotate_left
      · (intro w' ⟨d0, d1⟩; go_simp) <;> with_reducible rfl
      try simp only [Act.put, List.setIfInBounds_toArray, List.set_cons_zero, List.set_cons_succ]
      refine wpAnyH_take (i := 5) (oi := { dst := some 26, op := .load 3 (.tmp 25), type := 3, pos := "law.go:49", after := #[{ on := 4, ground := .data }], guard := none }) (v := ?_) rfl (by kernel_rfl) (by kernel_rfl) (by kernel_rfl) (fun _ _ _ h => h) (Or.inl ⟨by rfl, ?_⟩) hS ?_
      rotate_left
      · (intro w' ⟨d0, d1⟩; go_simp) <;> with_reducible rfl
      try simp only [Act.put, List.setIfInBounds_toArray, List.set_cons_zero, List.set_cons_succ]
      refine wpAnyH_take (i := 6) (oi := { dst := some 27, op := .move (.tmp 0), type := 28, pos := "law.go:49", after := #[], guard := none }) (v := ?_) rfl (by kernel_rfl) (by kernel_rfl) (by kernel_rfl) (fun _ _ _ h => h) (Or.inl ⟨by rfl, ?_⟩) hS ?_
      rotate_left
      · (intro w' ⟨d0, d1⟩; go_simp) <;> with_reducible rfl
      try simp only [Act.put, List.setIfInBounds_toArray, List.set_cons_zero, List.set_cons_succ]
      refine wpAnyH_take (i := 7) (oi := { dst := some 28, op := .move (.tmp 4), type := 3, pos := "law.go:49", after := #[], guard := none }) (v := ?_) rfl (by kernel_rfl) (by kernel_rfl) (by kernel_rfl) (fun _ _ _ h => h) (Or.inl ⟨by rfl, ?_⟩) hS ?_
      rotate_left
      · (intro w' ⟨d0, d1⟩; go_simp) <;> with_reducible rfl
      try simp only [Act.put, List.setIfInBounds_toArray, List.set_cons_zero, List.set_cons_succ]
      refine wpAnyH_take (i := 8) (oi := { dst := some 29, op := .indexAddr 28 (.tmp 27) (.tmp 28), type := 0, pos := "law.go:49", after := #[{ on := 6, ground := .data }, { on := 7, ground := .data }], guard := none }) (v := ?_) rfl (by kernel_rfl) (by kernel_rfl) (by kernel_rfl) (fun _ _ _ h => h) (Or.inl ⟨by rfl, ?_⟩) hS ?_
      rotate_left
      · (intro w' ⟨d0, d1⟩; go_simp) <;> with_reducible rfl
      try simp only [Act.put, List.setIfInBounds_toArray, List.set_cons_zero, List.set_cons_succ]
      refine wpAnyH_take (i := 9) (oi := { dst := some 30, op := .fieldAddr 36 (.tmp 29) 1, type := 0, pos := "law.go:49", after := #[{ on := 8, ground := .data }], guard := none }) (v := ?_) rfl (by kernel_rfl) (by kernel_rfl) (by kernel_rfl) (fun _ _ _ h => h) (Or.inl ⟨by rfl, ?_⟩) hS ?_
      rotate_left
      · (intro w' ⟨d0, d1⟩; go_simp) <;> with_reducible rfl
      try simp only [Act.put, List.setIfInBounds_toArray, List.set_cons_zero, List.set_cons_succ]
      refine wpAnyH_take (i := 10) (oi := { dst := some 31, op := .load 22 (.tmp 30), type := 22, pos := "law.go:49", after := #[{ on := 9, ground := .data }], guard := none }) (v := ?_) rfl (by kernel_rfl) (by kernel_rfl) (by kernel_rfl) (fun _ _ _ h => h) (Or.inl ⟨by rfl, ?_⟩) hS ?_
      rotate_left
      · (intro w' ⟨d0, d1⟩; go_simp) <;> with_reducible rfl
      try simp only [Act.put, List.setIfInBounds_toArray, List.set_cons_zero, List.set_cons_succ]
      refine wpAnyH_take (i := 11) (oi := { dst := some 32, op := .build 37 #[(0, .tmp 26), (1, .tmp 31)], type := 37, pos := "law.go:49", after := #[{ on := 5, ground := .data }, { on := 10, ground := .data }], guard := none }) (v := ?_) rfl (by kernel_rfl) (by kernel_rfl) (by kernel_rfl) (fun _ _ _ h => h) (Or.inl ⟨by rfl, ?_⟩) hS ?_
      rotate_left
      · (intro w' ⟨d0, d1⟩; go_simp) <;> with_reducible rfl
      try simp only [Act.put, List.setIfInBounds_toArray, List.set_cons_zero, List.set_cons_succ]
      refine wpAnyH_ready (rs := [12]) (by kernel_rfl) (by simp) ?_
      refine AllReadyH.cons (o := { dst := some 33, op := .buildSlice 24 1 #[(0, .tmp 32)], type := 24, pos := "law.go:49", after := #[{ on := 11, ground := .data }], guard := none }) rfl (fun K hK => ?_) AllReadyH.nil
      go_simp
      have hbA : Below wr.heap.size wr (wr.alloc (.cells #[.int .i64 id, .slice SA sn sc] 37)).drew := ((Below.refl _ _).alloc (Nat.le_refl _) _).drew
      have hS2 : ((wr.alloc (.cells #[.int .i64 id, .slice SA sn sc] 37)).drew.cell? ⟨b, off + j * 2, none⟩ = some (.int .i64 id)) ∧ (wr.alloc (.cells #[.int .i64 id, .slice SA sn sc] 37)).drew.cell? ⟨b, off + j * 2 + 1, none⟩ = some (.slice SA sn sc) := ⟨(hbA.cell (p := ⟨b, off + j * 2, none⟩) hbw).trans hS.1, (hbA.cell (p := ⟨b, off + j * 2 + 1, none⟩) hbw).trans hS.2⟩
      have HL2 := Lib.hid (HLS.out.keep hbA)
      have HLAB2 := Lib.hid ((HLAB.out.1.below hbA).more hbA.size)
      have HROW := Lib.hid (rowE_lit wr 37 [((⟨id, sb⟩ : Sec), SA, sc)] #[.int .i64 id, .slice SA sn sc] 1 (by simp [els, el, HSN.out]) rfl (by simp [maxLen]))
      have hbase := HL2.out.below.size
      refine hK.out _ _ hS2 (fun _ => ?_)
      clear hK K
      try simp only [Act.put, List.setIfInBounds_toArray, List.set_cons_zero, List.set_cons_succ]
      refine wpAnyH_ready (rs := [13]) (by kernel_rfl) (by simp) ?_
      refine AllReadyH.cons (o := { dst := some 34, op := .call { callee := .builtin .append, args := #[.tmp 21, .tmp 33], argTypes := #[24, 24] }, type := 24, pos := "law.go:49", after := #[{ on := 0, ground := .data }, { on := 12, ground := .data }], guard := none }) rfl (fun K hK => ?_) AllReadyH.nil
      refine app_secq tyO rfl (.tmp 21) (.tmp 33) rfl w1.heap.size _ es rfl HL2.out.own wr.heap.size 0 [((⟨id, sb⟩ : Sec), SA, sc)] 1 1 _ (j + 1) rfl rfl HROW.out HES.out hk hbase ?_
      intro A6 c6 w6 hown6 hg6 hob6
      have hls6 := HL2.out.more HLAB2.out HLAB.out.2 (by simp) hown6 hg6 hob6
      have hS3 : (w6.cell? ⟨b, off + j * 2, none⟩ = some (.int .i64 id)) ∧ w6.cell? ⟨b, off + j * 2 + 1, none⟩ = some (.slice SA sn sc) := ⟨(hls6.below.cell (p := ⟨b, off + j * 2, none⟩) hbB).trans HX.out.1, (hls6.below.cell (p := ⟨b, off + j * 2 + 1, none⟩) hbB).trans HX.out.2⟩
      refine hK.out _ _ hS3 (fun _ => ?_)
      clear hK K
      try simp only [Act.put, List.setIfInBounds_toArray, List.set_cons_zero, List.set_cons_succ]
      refine wpAnyH_take (i := 14) (oi := { dst := some 3, op := .assign (.tmp 34), type := 24, pos := "law.go:49", after := #[{ on := 13, ground := .data }, { on := 13, ground := .chain }, { on := 0, ground := .phase }, { on := 1, ground := .phase }, { on := 2, ground := .phase }, { on := 3, ground := .phase }, { on := 4, ground := .phase }, { on := 5, ground := .phase }, { on := 6, ground := .phase }, { on := 7, ground := .phase }, { on := 8, ground := .phase }, { on := 9, ground := .phase }, { on := 10, ground := .phase }, { on := 11, ground := .phase }, { on := 12, ground := .phase }, { on := 13, ground := .phase }], guard := none }) (v := ?_) rfl (by kernel_rfl) (by kernel_rfl) (by kernel_rfl) (fun _ _ _ h => h) (Or.inl ⟨by rfl, ?_⟩) hS3 ?_
      rotate_left
      · (intro w' ⟨d0, d1⟩; go_simp) <;> with_reducible rfl
      try simp only [Act.put, List.setIfInBounds_toArray, List.set_cons_zero, List.set_cons_succ]
      refine wpAnyH_done (by kernel_rfl) ?_ _
      go_wp2
      go_roundw
      case rel => exact ⟨j + 1, _, _, by omega, rfl, by go_num, hls6, Lib.hid (HEN.out SA sc)⟩
      case measure => simp [intOf]; omega
    · obtain rfl : j = l.length := by omega
      have hji : ¬ (l.length : Int) < (l.length : Int) := by omega
      have he := HE2.out
      rw [List.take_length] at he
      have hel : es.length = l.length := by rw [← he]; simp
      rw [he] at hsli
      rw [hel] at hlv
      have HM := Lib.hid (And.intro hsli ((HS.out.below hls.below).more hls.below.size))
      have HB2 := Lib.hid (HB1.out.trans (hls.below.mono HB1.out.size))
      subst hlv
      clear hls hsli he HE2 hel HS HB1
      go_wp2_with fail
      refine (HJ.out _ _ _ HM.out.1).mono ?_
      rintro e w3 ⟨A3, c3, rfl, hs3, _, hb3⟩
      have HM3 := Lib.hid (And.intro ((HM.out.1.below hb3).more hb3.size) (And.intro ((HM.out.2.below hb3).more hb3.size) hs3))
      have HB3 := Lib.hid (HB2.out.trans (hb3.mono HB2.out.size))
      simp only [HN.out]
      clear hs3 hb3 HM HB2 HJ
      go_wp2_with fail
      refine (HRJ.out _ HM3.out.2.1).mono ?_
      rintro e w4 ⟨A4, c4, rfl, hs4, _, hb4⟩
      have HM4 := Lib.hid (And.intro ((HM3.out.1.below hb4).more hb4.size) (And.intro ((HM3.out.2.1.below hb4).more hb4.size) (And.intro ((HM3.out.2.2.below hb4).more hb4.size) hs4)))
      have HB4 := Lib.hid (HB3.out.trans (hb4.mono HB3.out.size))
      simp only [HN.out]
      clear hs4 hb4 HM3 HB3 HRJ
      have hkk : ((k : Int) != (k : Int)) = false := by simp
      go_wp2_with fail
      refine (HBS.out _ _ _ _ _ HM4.out.2.2.1 HM4.out.2.2.2).mono ?_
      rintro e w5 ⟨rfl, m5, rfl⟩
      have hd := below_drewN (Below.refl w4.heap.size w4) m5
      have HM5 := Lib.hid (And.intro ((HM4.out.1.below hd).more hd.size) (And.intro ((HM4.out.2.1.below hd).more hd.size) ((HM4.out.2.2.1.below hd).more hd.size)))
      have HB5 := Lib.hid (HB4.out.trans (hd.mono HB4.out.size))
      clear hd HM4 HB4 HBS
      generalize w4.drewN m5 = w5 at *
      go_wp2_with fail
      refine (HT.out _ _ _ HM5.out.1).mono ?_
      rintro e w6 ⟨A6, c6, rfl, hs6, hb6⟩
      have HM6 := Lib.hid (And.intro hs6 (And.intro ((HM5.out.2.1.below hb6).more hb6.size) ((HM5.out.2.2.below hb6).more hb6.size)))
      have HB6 := Lib.hid (HB5.out.trans (hb6.mono HB5.out.size))
      clear hs6 hb6 HM5 HB5
      go_wp2_with fail
      refine (HSM.out _ _ _ _ _ HM6.out.1 HM6.out.2.1).mono ?_
      rintro e w7 ⟨rfl, m7, rfl⟩
      have hd := below_drewN (Below.refl w6.heap.size w6) m7
      have HM7 := Lib.hid (And.intro ((HM6.out.2.1.below hd).more hd.size) ((HM6.out.2.2.below hd).more hd.size))
      have HB7 := Lib.hid (HB6.out.trans (hd.mono HB6.out.size))
      clear hd HM6 HB6
      generalize w6.drewN m7 = w7 at *
      by_cases hk : k = 0
      · subst hk
        have HSP2 := Lib.hid (HSP.out rfl)
        clear HSP HE
        go_wp2_with fail
        refine (HSP2.out _ _ _ HM7.out.2).mono ?_
        rintro e w8 ⟨A8, c8, rfl, hs8, _, hb8⟩
        have HM8 := Lib.hid (And.intro hs8 ((HM7.out.1.below hb8).more hb8.size))
        have HB8 := Lib.hid (HB7.out.trans (hb8.mono HB7.out.size))
        clear hs8 hb8 HM7 HB7 HSP2
        go_wp2_with fail
        refine (HT.out _ _ _ HM8.out.1).mono ?_
        rintro e w9 ⟨A9, c9, rfl, hs9, hb9⟩
        have HM9 := Lib.hid (And.intro hs9 ((HM8.out.2.below hb9).more hb9.size))
        have HB9 := Lib.hid (HB8.out.trans (hb9.mono HB8.out.size))
        clear hs9 hb9 HM8 HB8 HT
        go_wp2_with fail
        refine (HSM.out _ _ _ _ _ HM9.out.1 HM9.out.2).mono ?_
        rintro e wa ⟨rfl, ma, rfl⟩
        have HBa := Lib.hid (below_drewN HB9.out ma)
        clear HM9 HB9 HSM
        go_wp2
        go_ret
        exact ⟨rfl, HBa.out⟩
      · have hne : ((k : Int) != 0) = true := by simp; omega
        have hn0 := HE.out hk
        subst hn0
        clear HSP HE HM7 HT HSM
        go_wp2
        go_ret
        exact ⟨rfl, HB7.out⟩
theorem joins_law (A : Option Addr) (l : List Sec) (c : Nat) (w : World) (hs : Sli w w.heap.size A c l) :
    Calls Try.prog 4 #[.slice A l.length c] w fun e w' => e = .returned (.bool true) ∧ Below w.heap.size w w' := by
  by_cases h : shortS l = true
  · exact joins_yes A l c w hs h
  · exact joins_no A l c w hs (by simpa using h)
end Go.Proofs.Ytelcoeeijkainaa.Sec
