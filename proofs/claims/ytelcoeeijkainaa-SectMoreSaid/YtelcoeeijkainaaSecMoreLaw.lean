/-
  trammellaw07.SectMore returns true. Conditions: the slices lead to sections, to bytes. (Written by wip/tools/genmore.py.)
-/
import Derived.Test.YtelcoeeijkainaaSecJoinsLaw
import Derived.Test.YtelcoeeijkainaaSecCutLaw
namespace Go.Proofs.Ytelcoeeijkainaa.Sec
open Go.RowKit Leb

theorem add_at (b off k : Nat) : (⟨b, off, none⟩ : Addr).add k = ⟨b, off + k, none⟩ := by
  unfold Addr.add
  by_cases h : k = 0 <;> simp [h]
set_option maxRecDepth 100000 in
/-- 'l[q:]' of sections. -/
theorem secs_lo {t et : TypeId} (T : Ty t et) (A : Option Addr) (l : List Sec) (c q B : Nat) (w : World) (hs : Sli w B A c l) (hq : q ≤ l.length) :
    ∃ A' c', (∀ W, (Instr.slice t (.slice A l.length c) (some (.int .i64 (q : Int))) none none).run Try.prog W = .ok (.slice A' (l.length - q) c') W) ∧ (∀ W, Sli W B A c l → Sli W B A' c' (l.drop q)) := by
  have hr := hs.room
  have he : Try.prog.elem t = et := by simp [Program.elem, T.und]
  obtain ⟨i0, hi0, hz0, hz1, hz2⟩ := info_parts T.info
  have hsz : ∀ W, (sizeOf (Try.prog.elem t)).run Try.prog W = .ok 2 W := fun W => by rw [he, run_sizeOf W hi0]; simp [Program.cellsOf, hi0, hz1]
  have key : ∀ W, (Instr.slice t (.slice A l.length c) (some (.int .i64 (q : Int))) none none).run Try.prog W = .ok (sliced A q l.length c 2) W := fun W => by
    rw [run_slice_l W t A l.length c (by rw [he]; exact T.und) .i64 (q : Int) (by omega) (by omega), hsz W]
    simp [Result.andThen]
  by_cases hc : c = q
  · refine ⟨A, c - q, fun W => ?_, fun W hW => ⟨fun h => ?_, by simp; omega, fun h => by rw [hW.nil h]; omega⟩⟩
    · rw [key W]; simp [sliced, hc]
    · simp at h; omega
  · refine ⟨A.map (·.add (q * 2)), c - q, fun W => ?_, fun W hW => ⟨fun h => ?_, by simp; omega, fun h => ?_⟩⟩
    · rw [key W]; simp [sliced, hc]
    · have hl : q < l.length := by simp at h; omega
      obtain ⟨b, off, rfl, h2, h3⟩ := hW.secs (by omega)
      refine ⟨b, off + q * 2, ?_, h2, fun j hj => ?_⟩
      · rw [Option.map_some, add_at]
      · have := h3 (q + j) (by simp at hj; omega)
        rw [List.getElem_drop, show off + q * 2 + j * 2 = off + (q + j) * 2 from by omega]
        exact this
    · cases A with
      | none => rw [hW.nil rfl]; omega
      | some ad => simp at h
theorem rowE_same {w w' : World} {B b off : Nat} {es : List Ent} (h : RowE w B (some ⟨b, off, none⟩) es) (hh : w'.heap[b]? = w.heap[b]?) : RowE w' B (some ⟨b, off, none⟩) es := by
  intro hl
  obtain ⟨b', off', e, hb, hc⟩ := h hl
  injection e with e
  injection e with e1 e2 _
  subst e1 e2
  refine ⟨b, off, rfl, hb, fun j hj i hi => ?_⟩
  have h3 : w'.cell? ⟨b, off + j * 2 + i, none⟩ = w.cell? ⟨b, off + j * 2 + i, none⟩ := World.cell?_of_block hh
  exact h3.trans (hc j hj i hi)
section
variable {w : World} {ops : Array Oper} {o : Oper} {a : Act} {K : Act → World → Prop} {Q : Exit → Act → World → Prop} {E : Prop} {t et : TypeId} (T : Ty t et)
include T
set_option maxRecDepth 100000 in
/-- 'append(s, x...)' in a drawn region: s owned, x a slice of sections. -/
theorem app_secE (hg : o.guard = none) (s x : Operand) (ho : o.op = .call { callee := .builtin .append, args := #[s, x], argTypes := #[t, t] })
    (base : Nat) (v : Value) (es : List Ent) (hs : a.eval s = v) (hown : OwnX w et base v es) (A : Option Addr) (c m B : Nat) (es' : List Ent) (hel : es'.length = m) (hx : a.eval x = .slice A m c) (hsrc : RowE w B A es') (hnil : A = none → c = 0)
    (k : Nat) (hk : es.length + m = k) (hlen : k ≤ 1000000) (hbase : base ≤ w.heap.size)
    (h : ∀ A' c' w', OwnX w' et base (.slice A' k c') (es ++ es') → w.grownBy w' v.ownBlock → K (a.put o.dst (.slice A' k c')) w') :
    if Region.wanted o (yielded ops a.tmps) = true then Oper.wp Try.prog o a w K Q else E := by
  rw [if_pos (by simp [Region.wanted, hg])]
  obtain ⟨i0, hi0, hz0, hz1, hz2⟩ := info_parts T.info
  subst hk
  cases A with
  | none =>
    have hm0 : es' = [] := by
      rcases Nat.eq_zero_or_pos es'.length with h0 | h0
      · exact List.eq_nil_of_length_eq_zero h0
      · obtain ⟨b, off, e, _⟩ := hsrc h0
        cases e
    subst hm0
    have hm00 : m = 0 := by simpa using hel.symm
    subst hm00
    have hc0 := hnil rfl
    subst hc0
    have hrun := run_append_owned_none (P := Try.prog) (w := w) base t o.type et i0 2 T.und hi0 v es.length (els es) hown
    unfold Oper.wp
    simp only [execOp, ho, resolve, invoke, builtin, hs, hx, hrun, Sem.run_bind, Sem.run_pure, Result.andThen_ok, List.map_toArray, List.map_cons, List.map_nil]
    obtain ⟨A', c', rfl, _, _, _⟩ := hown.row
    exact h A' c' w (by rw [List.append_nil]; exact hown) ⟨rfl, rfl, rfl, Nat.le_refl _, fun _ _ _ => rfl⟩
  | some ad =>
    have hnews : ∀ j u, (els es')[j]? = some u → w.cell? (ad.add j) = some u := by
      intro j u hu
      have hj : 0 < es'.length := by
        rcases Nat.eq_zero_or_pos es'.length with h0 | h0
        · have : es' = [] := List.eq_nil_of_length_eq_zero h0
          subst this
          simp [els] at hu
        · exact h0
      obtain ⟨b, off, e, hb, hc⟩ := hsrc hj
      injection e with e
      subst e
      exact cells_of (B := B) (fun _ => ⟨b, off, rfl, hb, hc⟩) j u hu
    obtain ⟨v', w', hrun, r2, r3, r4, r5⟩ := run_append_own_at (P := Try.prog) w base t o.type et i0 _ 2 32 T.und hi0 hz0 hz1 hz2 rfl (by omega) v es.length (els es) hown ad m c (els es') (by rw [els_len, hel]) hnews (els_one es') (by simp only [maxLen]; omega) (by omega) hbase
    unfold Oper.wp execOp
    simp only [ho, resolve, invoke, builtin, Sem.run_bind, Sem.run_pure, Result.andThen_ok, List.map_toArray, List.map_cons, List.map_nil, hs, hx, hrun]
    have ho' : OwnX w' et base v' (es ++ es') := by
      unfold OwnX
      rw [List.length_append, els_app, hel]
      exact r2
    obtain ⟨A', c', hv, _, _, _⟩ := ho'.row
    rw [List.length_append, hel] at hv
    subst hv
    exact h A' c' w' ho' r3
end
theorem ownX_from {w : World} {et : TypeId} {base base' : Nat} {v : Value} {es : List Ent} (h : OwnX w et base v es) (hb : base' ≤ base) : OwnX w et base' v es := by
  refine ⟨h.1, ?_⟩
  rcases h.2 with ⟨rfl, h0⟩ | ⟨g, cap, cur, rfl, h1, h2, h3, h4, h5⟩
  · exact .inl ⟨rfl, h0⟩
  · exact .inr ⟨g, cap, cur, rfl, Nat.le_trans hb h1, h2, h3, h4, h5⟩
theorem ownX_keep {w w' : World} {et : TypeId} {base : Nat} {v : Value} {es : List Ent} (h : OwnX w et base v es) (hb : Below w.heap.size w w') : OwnX w' et base v es := rowSame h fun b e => hb.block b (h.lt b e)
set_option maxHeartbeats 4000000 in
set_option maxRecDepth 100000 in
/-- It is not asked. -/
theorem more_out (A Ab : Option Addr) (l : List Sec) (c nb cb : Nat) (at' : Int) (w : World) (hs : Sli w w.heap.size A c l) (h : shortS l = false ∨ at' < 0 ∨ (l.length : Int) < at' ∨ 100 < (nb : Int)) :
    Calls Try.prog 6 #[.slice A l.length c, .int .i64 at', .slice Ab nb cb] w fun e w' => e = .returned (.bool true) ∧ Below w.heap.size w w' := by
  have HA := Lib.hid (awake_any w)
  have HSH : Hid (∀ W, Below w.heap.size w W → Calls Try.prog 12 #[.slice A l.length c] W (Still W (.bool (shortS l)))) := Lib.hid fun W hW => rshort_any A l c w.heap.size W (hs.secs.below hW)
  have H := Lib.hid h
  clear hs h
  generalize shortS l = sh at *
  generalize l.length = n at *
  go_enter Try.func6, Try.ntmps6
  go_wp2_with fail
  refine HA.out.mono ?_
  rintro e w1 ⟨rfl, hb1⟩
  have HB1 := Lib.hid hb1
  go_wp2_with fail
  refine (HSH.out _ hb1).mono ?_
  rintro e w2 ⟨rfl, rfl⟩
  clear hb1 HSH HA
  cases sh with
  | false =>
    clear H
    go_wp2
    go_ret
    exact ⟨rfl, HB1.out⟩
  | true =>
    have h := H.out.resolve_left (by simp)
    clear H
    by_cases h1 : at' < 0
    · clear h
      go_wp2
      go_ret
      exact ⟨rfl, HB1.out⟩
    · have h2 := h.resolve_left h1
      clear h
      by_cases h3 : (n : Int) < at'
      · clear h2
        go_wp2
        go_ret
        exact ⟨rfl, HB1.out⟩
      · have h4 := h2.resolve_left h3
        clear h2
        go_wp2
        go_ret
        exact ⟨rfl, HB1.out⟩
section
variable (A Ab : Option Addr) (l : List Sec) (c nb cb q : Nat) (bs : List Nat) (w : World) (hs : Sli w w.heap.size A c l) (hsh : shortS l = true) (hq : q ≤ l.length) (hnb : nb ≤ 100) (hbn : bs.length = nb) (hbs : Slc w w.heap.size Ab cb bs)
include hs hsh hq hnb hbn hbs
set_option maxHeartbeats 8000000 in
set_option maxRecDepth 100000 in
theorem more_in :
    Calls Try.prog 6 #[.slice A l.length c, .int .i64 (q : Int), .slice Ab nb cb] w fun e w' => e = .returned (.bool true) ∧ Below w.heap.size w w' := by
  obtain ⟨h40, h7, hjb⟩ := short_parts hsh
  have HA := Lib.hid (awake_any w)
  have HSH : Hid (∀ W, Below w.heap.size w W → Calls Try.prog 12 #[.slice A l.length c] W (Still W (.bool true))) := Lib.hid fun W hW => by
    have := rshort_any A l c w.heap.size W (hs.secs.below hW)
    rwa [hsh] at this
  have HJ : Hid (∀ W A1 c1, Sli W W.heap.size A1 c1 l → Calls Try.prog 13 #[.slice A1 l.length c1] W fun e w' => JoinIs W (joinRes l) (joinRes l).1.length e w') := Lib.hid fun W A1 c1 h => ojoin_any A1 l c1 W h (by omega) (by omega) (fun s hs => by have := h7 s hs; omega)
  have hML : (l.take q ++ ⟨0, bs⟩ :: l.drop q).length = l.length + 1 := by simp; omega
  have hMB : ∀ s ∈ l.take q ++ ⟨0, bs⟩ :: l.drop q, s.b.length ≤ 70000 := fun s hs => by
    rcases List.mem_append.1 hs with h | h
    · exact h7 s (List.mem_of_mem_take h)
    · rcases List.mem_cons.1 h with rfl | h
      · show bs.length ≤ 70000; omega
      · exact h7 s (List.mem_of_mem_drop h)
  have hJM := join_more l q bs
  have hJR : (joinRes l).2 = 0 → (joinRes l).1.length ≤ 60000 → joinRes (l.take q ++ ⟨0, bs⟩ :: l.drop q) = (joinBytes (l.take q ++ ⟨0, bs⟩ :: l.drop q), 0) ∧ splitRes (joinBytes (l.take q ++ ⟨0, bs⟩ :: l.drop q)) = (l.take q ++ ⟨0, bs⟩ :: l.drop q, 0) := fun h0 h6 => by
    have hpu : (putU bs.length).length ≤ 10 := (putUf_len 9 bs.length).2
    have ho : order l = true := by
      unfold joinRes at h0
      by_cases h1 : order l = false
      · rw [if_pos h1] at h0; simp at h0
      · simpa using h1
    have hb : (joinBytes l).length ≤ 60000 := by
      unfold joinRes at h0 h6
      rw [if_neg (by rw [ho]; simp)] at h0 h6
      by_cases h2 : 65536 < (joinBytes l).length
      · rw [if_pos h2] at h0; simp at h0
      · rw [if_neg h2] at h6; exact h6
    have hom := (order_more l q bs hq).trans ho
    refine ⟨?_, split_join _ hom (by omega) (fun s hs => by have := hMB s hs; omega)⟩
    unfold joinRes
    rw [if_neg (by rw [hom]; simp), if_neg (by omega)]
  have hMJ : (joinBytes (l.take q ++ ⟨0, bs⟩ :: l.drop q)).length ≤ 1000000 := by
    have hpu : (putU bs.length).length ≤ 10 := (putUf_len 9 bs.length).2
    omega
  have HMore : Hid (∀ W A1 c1, Sli W W.heap.size A1 c1 (l.take q ++ ⟨0, bs⟩ :: l.drop q) → Calls Try.prog 13 #[.slice A1 (l.length + 1) c1] W fun e w' => JoinIs W (joinRes (l.take q ++ ⟨0, bs⟩ :: l.drop q)) (joinRes (l.take q ++ ⟨0, bs⟩ :: l.drop q)).1.length e w') := Lib.hid fun W A1 c1 h => by
    have := ojoin_any A1 _ c1 W h (by omega) (by omega) (fun s hs => by have := hMB s hs; omega)
    rwa [hML] at this
  have HT : Hid (∀ W A1 c1, Sli W W.heap.size A1 c1 (l.take q ++ ⟨0, bs⟩ :: l.drop q) → Calls Try.prog 11 #[.slice A1 (l.length + 1) c1] W (ToldIs W (l.take q ++ ⟨0, bs⟩ :: l.drop q) (l.length + 1))) := Lib.hid fun W A1 c1 h => by
    have := told_any A1 _ c1 W h (by omega)
    rwa [hML] at this
  have HSM : Hid (∀ W A1 c1 A2 c2, Sli W W.heap.size A1 c1 (l.take q ++ ⟨0, bs⟩ :: l.drop q) → Sli W W.heap.size A2 c2 (l.take q ++ ⟨0, bs⟩ :: l.drop q) → Calls Try.prog 10 #[.slice A1 (l.length + 1) c1, .slice A2 (l.length + 1) c2] W (QuietB W true)) := Lib.hid fun W A1 c1 A2 c2 h1 h2 => by
    have := rsec_same A1 A2 _ _ c1 c2 W h1.secs h2.secs (by omega) (fun s hs => by have := hMB s hs; omega) (fun s hs => by have := hMB s hs; omega)
    rw [decide_eq_true rfl, hML] at this
    exact this
  generalize hM : l.take q ++ ⟨0, bs⟩ :: l.drop q = M at *
  obtain ⟨n, hn⟩ : ∃ n, (joinRes l).1.length = n := ⟨_, rfl⟩
  obtain ⟨nm, hnm⟩ : ∃ nm, (joinBytes M).length = nm := ⟨_, rfl⟩
  have HN := Lib.hid hn
  generalize hRl : joinRes l = R at *
  obtain ⟨jb, k⟩ := R
  have HJR := Lib.hid hJR
  have HSP : Hid (splitRes (joinBytes M) = (M, 0) → ∀ W A1 c1, Slc W W.heap.size A1 c1 (joinBytes M) → Calls Try.prog 8 #[.slice A1 nm c1] W (SplitIs W (M, 0) (l.length + 1))) := Lib.hid fun hsp W A1 c1 h => by
    have := osplit_any A1 (joinBytes M) c1 W h
    rw [hsp, hnm] at this
    simp only [hML] at this
    exact this
  have HNM := Lib.hid hnm
  have HM := Lib.hid hM
  have HNB := Lib.hid hbn
  have H40 : Hid (l.length ≤ 40) := Lib.hid h40
  have HTK : Hid ((l.take q).length = q) := Lib.hid (by simp; omega)
  have HDR : Hid ((l.drop q).length = l.length - q) := Lib.hid (by simp)
  have HS0 := Lib.hid hs
  have HBS := Lib.hid hbs
  have hq0 : ¬ (q : Int) < 0 := by omega
  have hql : ¬ (l.length : Int) < (q : Int) := by omega
  have hnbi : ¬ 100 < (nb : Int) := by omega
  have HQ := Lib.hid hq
  clear hs hsh h7 hjb hML hMB hJM hJR hMJ hn hnm hRl hM hbn hbs hnb hq
  go_enter Try.func6, Try.ntmps6
  go_wp2_with fail
  refine HA.out.mono ?_
  rintro e w1 ⟨rfl, hb1⟩
  have HB1 := Lib.hid hb1
  have HS := Lib.hid ((HS0.out.below hb1).more hb1.size)
  have HBS1 := Lib.hid ((HBS.out.below hb1).more hb1.size)
  go_wp2_with fail
  refine (HSH.out _ hb1).mono ?_
  rintro e w2 ⟨rfl, rfl⟩
  have hn40 : (l.length : Int) ≤ 40 := by have := H40.out; omega
  clear hb1 HA HSH HS0 HBS h40
  go_wp2_with fail
  have d1 : decide ((q : Int) < 0) = false := decide_eq_false (by omega)
  have d2 : decide (l.length < q) = false := decide_eq_false (by omega)
  have d3 : decide (100 < (nb : Int)) = false := decide_eq_false (by omega)
  simp only [d1, d2, d3, Bool.or_false]
  clear hq0 hql hnbi d1 d2 d3
  go_loopw [7, 8] (fun x3 x4 wr => ∃ (j : Nat) (lv : Value) (es : List Ent), j ≤ l.length ∧ x3 = lv ∧ x4 = .int .i64 (j : Int) ∧ LS w1 wr 37 none lv es ∧ Hid (es.map (fun e : Ent => e.1) = l.take j)) (fun _ i _ => l.length - (intOf i).toNat)
  case atStart => exact ⟨0, _, [], Nat.zero_le _, rfl, by go_num, ls_nil w1 w1 _ none (Below.refl _ _) (by simp), Lib.hid (by simp)⟩
  case round =>
    obtain ⟨j, lv, es, hj, rfl, rfl, hls, HE2⟩ := hrel
    obtain ⟨A1, c1, hlv, hsli⟩ := hls.sli
    by_cases hjl : j < l.length
    · have hji : (j : Int) < (l.length : Int) := by omega
      clear HJ HMore HT HSM HSP HJR HM HBS1
      obtain ⟨b, off, rfl, hbB, hc⟩ := HS.out.secs (by omega)
      obtain ⟨SA, sc, q0, q1, q2, q3, q4⟩ := hc j hjl
      have hel : es.length = j := by have := congrArg List.length HE2.out; simpa [Nat.min_eq_left (Nat.le_of_lt hjl)] using this
      have x0 := (hls.below.cell (p := ⟨b, off + j * 2, none⟩) hbB).trans q0
      have x1 := (hls.below.cell (p := ⟨b, off + j * 2 + 1, none⟩) hbB).trans q1
      have hbw : b < wr.heap.size := Nat.lt_of_lt_of_le hbB hls.below.size
      have q5 : Bytes w1 w1.heap.size SA l[j].b := q2
      have HEN : Hid (∀ (y : Option Addr) (v : Nat), (es ++ [((⟨l[j].id, l[j].b⟩ : Sec), y, v)]).map (fun e : Ent => e.1) = l.take (j + 1)) := Lib.hid fun y v => by
        rw [List.map_append, HE2.out, List.take_succ_eq_append_getElem hjl]; rfl
      have HX := Lib.hid (And.intro q0 q1)
      subst hlv
      have HLS := Lib.hid hls
      generalize l[j].id = id at *
      generalize l[j].b = sb at *
      generalize hsn : sb.length = sn at *
      have HSN := Lib.hid hsn
      have hlab : lab wr wr.heap.size ((⟨id, sb⟩ : Sec), SA, sc) := ⟨(q5.below hls.below).more hls.below.size, by show sb.length ≤ sc; rw [HSN.out]; exact q3, q4⟩
      have hoff : OffB (Value.slice A1 es.length c1).ownBlock ((⟨id, sb⟩ : Sec), SA, sc) := by
        intro hl a ha e2
        obtain ⟨b2, o2, e3, hb2, _⟩ := q5.2 hl
        have h1 := (World.ownsRow.lt HLS.out.own _ e2).1
        simp only at ha
        rw [ha] at e3
        injection e3 with e3
        subst e3
        simp only at h1
        omega
      have HLAB := Lib.hid (And.intro hlab hoff)
      have HES : Hid ((es ++ [((⟨id, sb⟩ : Sec), SA, sc)]).length = j + 1) := Lib.hid (by rw [List.length_append, hel]; rfl)
      have hk : j + 1 ≤ 1000000 := by omega
      clear hc q0 q1 q2 q3 q4 q5 hlab hoff hls hsn hel hsli HE2
      have hS : (wr.drew.cell? ⟨b, off + j * 2, none⟩ = some (.int .i64 id)) ∧ wr.drew.cell? ⟨b, off + j * 2 + 1, none⟩ = some (.slice SA sn sc) := ⟨x0, x1⟩
      go_wp2_with fail
      refine wp_region_held_drew (S := fun W => W.cell? ⟨b, off + j * 2, none⟩ = some (.int .i64 id) ∧ W.cell? ⟨b, off + j * 2 + 1, none⟩ = some (.slice SA sn sc)) (by kernel_rfl) hS (fun _ => ?_)
      clear x0 x1
      refine wpAnyH_take (i := 0) (oi := { dst := some 42, op := .move (.tmp 7), type := 24, pos := "law.go:115", after := #[], guard := none }) (v := ?_) rfl (by kernel_rfl) (by kernel_rfl) (by kernel_rfl) (fun _ _ _ h => h) (Or.inl ⟨by rfl, ?_⟩) hS ?_
      rotate_left
      · (intro w' ⟨d0, d1⟩; go_simp) <;> with_reducible rfl
      try simp only [Act.put, List.setIfInBounds_toArray, List.set_cons_zero, List.set_cons_succ]
      refine wpAnyH_take (i := 1) (oi := { dst := some 43, op := .move (.tmp 0), type := 28, pos := "law.go:115", after := #[], guard := none }) (v := ?_) rfl (by kernel_rfl) (by kernel_rfl) (by kernel_rfl) (fun _ _ _ h => h) (Or.inl ⟨by rfl, ?_⟩) hS ?_
      rotate_left
      · (intro w' ⟨d0, d1⟩; go_simp) <;> with_reducible rfl
      try simp only [Act.put, List.setIfInBounds_toArray, List.set_cons_zero, List.set_cons_succ]
      refine wpAnyH_take (i := 2) (oi := { dst := some 44, op := .move (.tmp 8), type := 3, pos := "law.go:115", after := #[], guard := none }) (v := ?_) rfl (by kernel_rfl) (by kernel_rfl) (by kernel_rfl) (fun _ _ _ h => h) (Or.inl ⟨by rfl, ?_⟩) hS ?_
      rotate_left
      · (intro w' ⟨d0, d1⟩; go_simp) <;> with_reducible rfl
      try simp only [Act.put, List.setIfInBounds_toArray, List.set_cons_zero, List.set_cons_succ]
      refine wpAnyH_take (i := 3) (oi := { dst := some 45, op := .indexAddr 28 (.tmp 43) (.tmp 44), type := 0, pos := "law.go:115", after := #[{ on := 1, ground := .data }, { on := 2, ground := .data }], guard := none }) (v := ?_) rfl (by kernel_rfl) (by kernel_rfl) (by kernel_rfl) (fun _ _ _ h => h) (Or.inl ⟨by rfl, ?_⟩) hS ?_
      rotate_left
      · (intro w' ⟨d0, d1⟩; go_simp) <;> with_reducible rfl
      try simp only [Act.put, List.setIfInBounds_toArray, List.set_cons_zero, List.set_cons_succ]
      refine wpAnyH_take (i := 4) (oi := { dst := some 46, op := .fieldAddr 36 (.tmp 45) 0, type := 0, pos := "law.go:115", after := #[{ on := 3, ground := .data }], guard := none }) (v := ?_) rfl (by kernel_rfl) (by kernel_rfl) (by kernel_rfl) (fun _ _ _ h => h) (Or.inl ⟨by rfl, ?_⟩) hS ?_
      rotate_left
      · (intro w' ⟨d0, d1⟩; go_simp) <;> with_reducible rfl
      try simp only [Act.put, List.setIfInBounds_toArray, List.set_cons_zero, List.set_cons_succ]
      refine wpAnyH_take (i := 5) (oi := { dst := some 47, op := .load 3 (.tmp 46), type := 3, pos := "law.go:115", after := #[{ on := 4, ground := .data }], guard := none }) (v := ?_) rfl (by kernel_rfl) (by kernel_rfl) (by kernel_rfl) (fun _ _ _ h => h) (Or.inl ⟨by rfl, ?_⟩) hS ?_
      rotate_left
      · (intro w' ⟨d0, d1⟩; go_simp) <;> with_reducible rfl
      try simp only [Act.put, List.setIfInBounds_toArray, List.set_cons_zero, List.set_cons_succ]
      refine wpAnyH_take (i := 6) (oi := { dst := some 48, op := .move (.tmp 0), type := 28, pos := "law.go:115", after := #[], guard := none }) (v := ?_) rfl (by kernel_rfl) (by kernel_rfl) (by kernel_rfl) (fun _ _ _ h => h) (Or.inl ⟨by rfl, ?_⟩) hS ?_
      rotate_left
      · (intro w' ⟨d0, d1⟩; go_simp) <;> with_reducible rfl
      try simp only [Act.put, List.setIfInBounds_toArray, List.set_cons_zero, List.set_cons_succ]
      refine wpAnyH_take (i := 7) (oi := { dst := some 49, op := .move (.tmp 8), type := 3, pos := "law.go:115", after := #[], guard := none }) (v := ?_) rfl (by kernel_rfl) (by kernel_rfl) (by kernel_rfl) (fun _ _ _ h => h) (Or.inl ⟨by rfl, ?_⟩) hS ?_
      rotate_left
      · (intro w' ⟨d0, d1⟩; go_simp) <;> with_reducible rfl
      try simp only [Act.put, List.setIfInBounds_toArray, List.set_cons_zero, List.set_cons_succ]
      refine wpAnyH_take (i := 8) (oi := { dst := some 50, op := .indexAddr 28 (.tmp 48) (.tmp 49), type := 0, pos := "law.go:115", after := #[{ on := 6, ground := .data }, { on := 7, ground := .data }], guard := none }) (v := ?_) rfl (by kernel_rfl) (by kernel_rfl) (by kernel_rfl) (fun _ _ _ h => h) (Or.inl ⟨by rfl, ?_⟩) hS ?_
      rotate_left
      · (intro w' ⟨d0, d1⟩; go_simp) <;> with_reducible rfl
      try simp only [Act.put, List.setIfInBounds_toArray, List.set_cons_zero, List.set_cons_succ]
      refine wpAnyH_take (i := 9) (oi := { dst := some 51, op := .fieldAddr 36 (.tmp 50) 1, type := 0, pos := "law.go:115", after := #[{ on := 8, ground := .data }], guard := none }) (v := ?_) rfl (by kernel_rfl) (by kernel_rfl) (by kernel_rfl) (fun _ _ _ h => h) (Or.inl ⟨by rfl, ?_⟩) hS ?_
      rotate_left
      · (intro w' ⟨d0, d1⟩; go_simp) <;> with_reducible rfl
      try simp only [Act.put, List.setIfInBounds_toArray, List.set_cons_zero, List.set_cons_succ]
      refine wpAnyH_take (i := 10) (oi := { dst := some 52, op := .load 22 (.tmp 51), type := 22, pos := "law.go:115", after := #[{ on := 9, ground := .data }], guard := none }) (v := ?_) rfl (by kernel_rfl) (by kernel_rfl) (by kernel_rfl) (fun _ _ _ h => h) (Or.inl ⟨by rfl, ?_⟩) hS ?_
      rotate_left
      · (intro w' ⟨d0, d1⟩; go_simp) <;> with_reducible rfl
      try simp only [Act.put, List.setIfInBounds_toArray, List.set_cons_zero, List.set_cons_succ]
      refine wpAnyH_take (i := 11) (oi := { dst := some 53, op := .build 37 #[(0, .tmp 47), (1, .tmp 52)], type := 37, pos := "law.go:115", after := #[{ on := 5, ground := .data }, { on := 10, ground := .data }], guard := none }) (v := ?_) rfl (by kernel_rfl) (by kernel_rfl) (by kernel_rfl) (fun _ _ _ h => h) (Or.inl ⟨by rfl, ?_⟩) hS ?_
      rotate_left
      · (intro w' ⟨d0, d1⟩; go_simp) <;> with_reducible rfl
      try simp only [Act.put, List.setIfInBounds_toArray, List.set_cons_zero, List.set_cons_succ]
      refine wpAnyH_ready (rs := [12]) (by kernel_rfl) (by simp) ?_
      refine AllReadyH.cons (o := { dst := some 54, op := .buildSlice 24 1 #[(0, .tmp 53)], type := 24, pos := "law.go:115", after := #[{ on := 11, ground := .data }], guard := none }) rfl (fun K hK => ?_) AllReadyH.nil
      go_simp
      have hbA : Below wr.heap.size wr (wr.alloc (.cells #[.int .i64 id, .slice SA sn sc] 37)).drew := ((Below.refl _ _).alloc (Nat.le_refl _) _).drew
      have hS2 : ((wr.alloc (.cells #[.int .i64 id, .slice SA sn sc] 37)).drew.cell? ⟨b, off + j * 2, none⟩ = some (.int .i64 id)) ∧ (wr.alloc (.cells #[.int .i64 id, .slice SA sn sc] 37)).drew.cell? ⟨b, off + j * 2 + 1, none⟩ = some (.slice SA sn sc) := ⟨(hbA.cell (p := ⟨b, off + j * 2, none⟩) hbw).trans hS.1, (hbA.cell (p := ⟨b, off + j * 2 + 1, none⟩) hbw).trans hS.2⟩
      have HL2 := Lib.hid (HLS.out.keep hbA)
      have HLAB2 := Lib.hid ((HLAB.out.1.below hbA).more hbA.size)
      have HROW := Lib.hid (rowE_lit wr 37 [((⟨id, sb⟩ : Sec), SA, sc)] #[.int .i64 id, .slice SA sn sc] 1 (by simp [els, el, HSN.out]) rfl (by simp [maxLen]))
      have hbase := HL2.out.below.size
      refine hK.out _ _ hS2 (fun _ => ?_)
      clear hK K
      try simp only [Act.put, List.setIfInBounds_toArray, List.set_cons_zero, List.set_cons_succ]
      refine wpAnyH_ready (rs := [13]) (by kernel_rfl) (by simp) ?_
      refine AllReadyH.cons (o := { dst := some 55, op := .call { callee := .builtin .append, args := #[.tmp 42, .tmp 54], argTypes := #[24, 24] }, type := 24, pos := "law.go:115", after := #[{ on := 0, ground := .data }, { on := 12, ground := .data }], guard := none }) rfl (fun K hK => ?_) AllReadyH.nil
      refine app_secq tyO rfl (.tmp 42) (.tmp 54) rfl w1.heap.size _ es rfl HL2.out.own wr.heap.size 0 [((⟨id, sb⟩ : Sec), SA, sc)] 1 1 _ (j + 1) rfl rfl HROW.out HES.out hk hbase ?_
      intro A6 c6 w6 hown6 hg6 hob6
      have hls6 := HL2.out.more HLAB2.out HLAB.out.2 (by simp) hown6 hg6 hob6
      have hS3 : (w6.cell? ⟨b, off + j * 2, none⟩ = some (.int .i64 id)) ∧ w6.cell? ⟨b, off + j * 2 + 1, none⟩ = some (.slice SA sn sc) := ⟨(hls6.below.cell (p := ⟨b, off + j * 2, none⟩) hbB).trans HX.out.1, (hls6.below.cell (p := ⟨b, off + j * 2 + 1, none⟩) hbB).trans HX.out.2⟩
      refine hK.out _ _ hS3 (fun _ => ?_)
      clear hK K
      try simp only [Act.put, List.setIfInBounds_toArray, List.set_cons_zero, List.set_cons_succ]
      refine wpAnyH_take (i := 14) (oi := { dst := some 7, op := .assign (.tmp 55), type := 24, pos := "law.go:115", after := #[{ on := 13, ground := .data }, { on := 13, ground := .chain }, { on := 0, ground := .phase }, { on := 1, ground := .phase }, { on := 2, ground := .phase }, { on := 3, ground := .phase }, { on := 4, ground := .phase }, { on := 5, ground := .phase }, { on := 6, ground := .phase }, { on := 7, ground := .phase }, { on := 8, ground := .phase }, { on := 9, ground := .phase }, { on := 10, ground := .phase }, { on := 11, ground := .phase }, { on := 12, ground := .phase }, { on := 13, ground := .phase }], guard := none }) (v := ?_) rfl (by kernel_rfl) (by kernel_rfl) (by kernel_rfl) (fun _ _ _ h => h) (Or.inl ⟨by rfl, ?_⟩) hS3 ?_
      rotate_left
      · (intro w' ⟨d0, d1⟩; go_simp) <;> with_reducible rfl
      try simp only [Act.put, List.setIfInBounds_toArray, List.set_cons_zero, List.set_cons_succ]
      refine wpAnyH_done (by kernel_rfl) ?_ _
      go_wp2
      go_roundw
      case rel => exact ⟨j + 1, _, _, by omega, rfl, by go_num, hls6, Lib.hid (HEN.out SA sc)⟩
      case measure => simp [intOf]; omega
    · obtain rfl : j = l.length := by omega
      have hji : ¬ (l.length : Int) < (l.length : Int) := by omega
      have he := HE2.out
      rw [List.take_length] at he
      have hel : es.length = l.length := by rw [← he]; simp
      rw [he] at hsli
      rw [hel] at hlv
      have HML := Lib.hid (And.intro hsli ((HBS1.out.below hls.below).more hls.below.size))
      have HB2 := Lib.hid (HB1.out.trans (hls.below.mono HB1.out.size))
      subst hlv
      clear hls hsli he HE2 hel HS HB1 HBS1
      go_wp2_with fail
      refine (HJ.out _ _ _ HML.out.1).mono ?_
      rintro e w3 ⟨A3, c3, rfl, hs3, _, hb3⟩
      have HM3 := Lib.hid (And.intro ((HML.out.1.below hb3).more hb3.size) ((HML.out.2.below hb3).more hb3.size))
      have HB3 := Lib.hid (HB2.out.trans (hb3.mono HB2.out.size))
      simp only [HN.out]
      clear hs3 hb3 HML HB2 HJ
      by_cases hk : k = 0
      · by_cases h6 : n ≤ 60000
        · obtain ⟨hr1, hr2⟩ := HJR.out hk (by show jb.length ≤ 60000; have h : jb.length = n := HN.out; omega)
          have HSP2 := Lib.hid (HSP.out hr2)
          have HMR : Hid (∀ W A1 c1, Sli W W.heap.size A1 c1 M → Calls Try.prog 13 #[.slice A1 (l.length + 1) c1] W (JoinIs W (joinBytes M, 0) nm)) := Lib.hid fun W A1 c1 h => by
            have := HMore.out W A1 c1 h
            rw [hr1] at this
            simp only [HNM.out] at this
            exact this
          have h6i : ¬ 60000 < (n : Int) := by omega
          subst hk
          clear hr1 hr2 HSP HJR HMore HNM h6
          generalize joinBytes M = JB at *
          have HM5 : Hid (Sli w3.drew w3.drew.heap.size A1 c1 l ∧ Slc w3.drew w3.drew.heap.size Ab cb bs) := Lib.hid (And.intro ((HM3.out.1.below (Below.refl _ _).drew).more (Nat.le_refl _)) ((HM3.out.2.below (Below.refl _ _).drew).more (Nat.le_refl _)))
          have HB5 := Lib.hid (HB3.out.trans ((Below.refl w3.heap.size w3).drew.mono HB3.out.size))
          have hq6 : q ≤ 1000000 := by have := HQ.out; have := H40.out; omega
          have hthi := secs_hi tyO A1 l.length c1 q HM3.out.1.room HQ.out
          obtain ⟨A2, c2, hlo, hlo2⟩ := secs_lo tyO A1 l c1 q w3.heap.size w3 HM3.out.1 HQ.out
          have HLO := Lib.hid hlo2
          clear HM3 HB3 hlo2
          go_wp2_with fail
          refine wp_region_held_drew (S := fun _ => True) (by kernel_rfl) trivial (fun _ => ?_)
          have HLO2 : Hid (∀ W, Sli W w3.drew.heap.size A1 c1 l → Sli W w3.drew.heap.size A2 c2 (l.drop q)) := HLO
          clear HLO
          generalize w3.drew = V at *
          have hTN := Secs.takeN HM5.out.1 q
          have hDN := HLO2.out V HM5.out.1
          obtain ⟨esT, hT1, hT2, hT3⟩ := hTN.secs.ents
          obtain ⟨esD, hD1, hD2, hD3⟩ := hDN.secs.ents
          have HT2 := Lib.hid (And.intro hT2 hTN.nil)
          have HD2 := Lib.hid (And.intro hD2 hDN.nil)
          have HTL : Hid (esT.length = q) := Lib.hid (by have := congrArg List.length hT1; rw [List.length_map, HTK.out] at this; exact this)
          have HDL : Hid (esD.length = l.length - q) := Lib.hid (by have := congrArg List.length hD1; rw [List.length_map, HDR.out] at this; exact this)
          have hlit : lab V V.heap.size ((⟨0, bs⟩ : Sec), Ab, cb) := ⟨HM5.out.2.bytes, HM5.out.2.room, HM5.out.2.nil⟩
          have HLB : Hid (∀ e ∈ esT ++ [((⟨0, bs⟩ : Sec), Ab, cb)] ++ esD, lab V V.heap.size e) := Lib.hid fun e he => (List.mem_append.1 he).elim (fun he => (List.mem_append.1 he).elim (hT3 e) fun he => by rw [List.mem_singleton.1 he]; exact hlit) (hD3 e)
          have HMP : Hid ((esT ++ [((⟨0, bs⟩ : Sec), Ab, cb)] ++ esD).map (fun e : Ent => e.1) = M) := Lib.hid (by rw [List.map_append, List.map_append, hT1, hD1, ← HM.out]; simp)
          have HK1 : Hid (q + 1 ≤ 1000000 ∧ q + 1 + (l.length - q) = l.length + 1 ∧ l.length + 1 ≤ 1000000) := Lib.hid ⟨by omega, by have := HQ.out; omega, by have := H40.out; omega⟩
          clear hTN hDN hT1 hT2 hT3 hD1 hD2 hD3 hlit HM5 HLO2 HM
          refine wpAnyH_take (i := 1) (oi := { dst := some 69, op := .move (.tmp 7), type := 24, pos := "law.go:120", after := #[], guard := none }) (v := ?_) rfl (by kernel_rfl) (by kernel_rfl) (by kernel_rfl) (fun _ _ _ h => h) (Or.inl ⟨by rfl, ?_⟩) trivial ?_
          rotate_left
          · (intro w' _; go_simp) <;> with_reducible rfl
          try simp only [Act.put, List.setIfInBounds_toArray, List.set_cons_zero, List.set_cons_succ]
          refine wpAnyH_take (i := 2) (oi := { dst := some 70, op := .move (.tmp 1), type := 3, pos := "law.go:120", after := #[], guard := none }) (v := ?_) rfl (by kernel_rfl) (by kernel_rfl) (by kernel_rfl) (fun _ _ _ h => h) (Or.inl ⟨by rfl, ?_⟩) trivial ?_
          rotate_left
          · (intro w' _; go_simp) <;> with_reducible rfl
          try simp only [Act.put, List.setIfInBounds_toArray, List.set_cons_zero, List.set_cons_succ]
          refine wpAnyH_take (i := 3) (oi := { dst := some 71, op := .slice 24 (.tmp 69) none (some (.tmp 70)) none, type := 24, pos := "law.go:120", after := #[{ on := 1, ground := .data }, { on := 2, ground := .data }], guard := none }) (v := ?_) rfl (by kernel_rfl) (by kernel_rfl) (by kernel_rfl) (fun _ _ _ h => h) (Or.inl ⟨by rfl, ?_⟩) trivial ?_
          rotate_left
          · (intro w' _; go_simp) <;> with_reducible rfl
          try simp only [Act.put, List.setIfInBounds_toArray, List.set_cons_zero, List.set_cons_succ]
          refine wpAnyH_take (i := 5) (oi := { dst := some 73, op := .move (.tmp 2), type := 22, pos := "law.go:120", after := #[], guard := none }) (v := ?_) rfl (by kernel_rfl) (by kernel_rfl) (by kernel_rfl) (fun _ _ _ h => h) (Or.inl ⟨by rfl, ?_⟩) trivial ?_
          rotate_left
          · (intro w' _; go_simp) <;> with_reducible rfl
          try simp only [Act.put, List.setIfInBounds_toArray, List.set_cons_zero, List.set_cons_succ]
          refine wpAnyH_take (i := 6) (oi := { dst := some 74, op := .build 37 #[(1, .tmp 73)], type := 37, pos := "law.go:120", after := #[{ on := 5, ground := .data }], guard := none }) (v := ?_) rfl (by kernel_rfl) (by kernel_rfl) (by kernel_rfl) (fun _ _ _ h => h) (Or.inl ⟨by rfl, ?_⟩) trivial ?_
          rotate_left
          · (intro w' _; go_simp) <;> with_reducible rfl
          try simp only [Act.put, List.setIfInBounds_toArray, List.set_cons_zero, List.set_cons_succ]
          refine wpAnyH_take (i := 9) (oi := { dst := some 77, op := .move (.tmp 7), type := 24, pos := "law.go:120", after := #[], guard := none }) (v := ?_) rfl (by kernel_rfl) (by kernel_rfl) (by kernel_rfl) (fun _ _ _ h => h) (Or.inl ⟨by rfl, ?_⟩) trivial ?_
          rotate_left
          · (intro w' _; go_simp) <;> with_reducible rfl
          try simp only [Act.put, List.setIfInBounds_toArray, List.set_cons_zero, List.set_cons_succ]
          refine wpAnyH_take (i := 10) (oi := { dst := some 78, op := .move (.tmp 1), type := 3, pos := "law.go:120", after := #[], guard := none }) (v := ?_) rfl (by kernel_rfl) (by kernel_rfl) (by kernel_rfl) (fun _ _ _ h => h) (Or.inl ⟨by rfl, ?_⟩) trivial ?_
          rotate_left
          · (intro w' _; go_simp) <;> with_reducible rfl
          try simp only [Act.put, List.setIfInBounds_toArray, List.set_cons_zero, List.set_cons_succ]
          refine wpAnyH_take (i := 11) (oi := { dst := some 79, op := .slice 24 (.tmp 77) (some (.tmp 78)) none none, type := 24, pos := "law.go:120", after := #[{ on := 9, ground := .data }, { on := 10, ground := .data }], guard := none }) (v := ?_) rfl (by kernel_rfl) (by kernel_rfl) (by kernel_rfl) (fun _ _ _ h => h) (Or.inl ⟨by rfl, ?_⟩) trivial ?_
          rotate_left
          · (intro w' _; go_simp) <;> with_reducible rfl
          try simp only [Act.put, List.setIfInBounds_toArray, List.set_cons_zero, List.set_cons_succ]
          refine wpAnyH_ready (rs := [0, 7]) (by kernel_rfl) (by simp) ?_
          refine AllReadyH.cons (o := { dst := some 68, op := .buildSlice 24 0 #[], type := 24, pos := "law.go:120", after := #[], guard := none }) rfl (fun K hK => ?_) (AllReadyH.cons (o := { dst := some 75, op := .buildSlice 24 1 #[(0, .tmp 74)], type := 24, pos := "law.go:120", after := #[{ on := 6, ground := .data }], guard := none }) rfl (fun K hK => ?_) AllReadyH.nil)
          · go_simp
            have hbA : Below V.heap.size V (V.alloc (.cells #[] 37)) := (Below.refl _ _).alloc (Nat.le_refl _) _
            have HBA := Lib.hid hbA
            have HO0 := Lib.hid (ownX_lit V 37 [] #[] 0 rfl rfl (by simp [maxLen]))
            clear hbA
            refine hK.out _ _ trivial (fun _ => ?_)
            clear hK K
            try simp only [Act.put, List.setIfInBounds_toArray, List.set_cons_zero, List.set_cons_succ]
            refine wpAnyH_ready (rs := [4, 7]) (by kernel_rfl) (by simp) ?_
            refine AllReadyH.cons (o := { dst := some 72, op := .call { callee := .builtin .append, args := #[.tmp 68, .tmp 71], argTypes := #[24, 24] }, type := 24, pos := "law.go:120", after := #[{ on := 0, ground := .data }, { on := 3, ground := .data }], guard := none }) rfl (fun K hK => ?_) (AllReadyH.cons (o := { dst := some 75, op := .buildSlice 24 1 #[(0, .tmp 74)], type := 24, pos := "law.go:120", after := #[{ on := 6, ground := .data }], guard := none }) rfl (fun K hK => ?_) AllReadyH.nil)
            · have hbx := HBA.out.size
              refine app_secE tyO rfl (.tmp 68) (.tmp 71) rfl V.heap.size (.slice (some ⟨V.heap.size, 0, none⟩) 0 0) [] rfl HO0.out A1 c1 q V.heap.size esT HTL.out rfl (HT2.out.1.below HBA.out) HT2.out.2 q (by simp) hq6 hbx ?_
              intro A4 c4 W4 hown4 hg4
              rw [List.nil_append] at hown4
              have HV4 := Lib.hid (HBA.out.grown hg4 HBA.out.size (fun i hi => (World.ownsRow.lt HO0.out i hi).1))
              clear hbx
              have HO4 := Lib.hid hown4
              clear hown4 hg4 HO0 HBA
              refine hK.out _ _ trivial (fun _ => ?_)
              clear hK K
              try simp only [Act.put, List.setIfInBounds_toArray, List.set_cons_zero, List.set_cons_succ]
              refine wpAnyH_ready (rs := [7]) (by kernel_rfl) (by simp) ?_
              refine AllReadyH.cons (o := { dst := some 75, op := .buildSlice 24 1 #[(0, .tmp 74)], type := 24, pos := "law.go:120", after := #[{ on := 6, ground := .data }], guard := none }) rfl (fun K hK => ?_) AllReadyH.nil
              go_simp
              have hbL : Below W4.heap.size W4 (W4.alloc (.cells #[.int .i64 0, .slice Ab nb cb] 37)) := (Below.refl _ _).alloc (Nat.le_refl _) _
              have HROWL := Lib.hid (rowE_lit W4 37 [((⟨0, bs⟩ : Sec), Ab, cb)] #[.int .i64 0, .slice Ab nb cb] 1 (by simp [els, el, HNB.out]) rfl (by simp [maxLen]))
              have HOWN := Lib.hid (ownX_keep HO4.out hbL)
              have HVX := Lib.hid (HV4.out.trans (hbL.mono HV4.out.size))
              clear hbL HO4 HV4
              refine hK.out _ _ trivial (fun _ => ?_)
              clear hK K
              try simp only [Act.put, List.setIfInBounds_toArray, List.set_cons_zero, List.set_cons_succ]
              refine wpAnyH_ready (rs := [8]) (by kernel_rfl) (by simp) ?_
              refine AllReadyH.cons (o := { dst := some 76, op := .call { callee := .builtin .append, args := #[.tmp 72, .tmp 75], argTypes := #[24, 24] }, type := 24, pos := "law.go:120", after := #[{ on := 4, ground := .data }, { on := 7, ground := .data }, { on := 4, ground := .chain }], guard := none }) rfl (fun K hK => ?_) AllReadyH.nil
              have hbx := HVX.out.size
              refine app_secE tyO rfl (.tmp 72) (.tmp 75) rfl V.heap.size _ esT rfl HOWN.out _ 1 1 _ [((⟨0, bs⟩ : Sec), Ab, cb)] rfl rfl HROWL.out (fun h => by cases h) (q + 1) (by rw [HTL.out]) HK1.out.1 hbx ?_
              intro A8 c8 W8 hown8 hg8
              have HV8 := Lib.hid (HVX.out.grown hg8 HVX.out.size (fun i hi => (World.ownsRow.lt HOWN.out i hi).1))
              have HO8 := Lib.hid hown8
              clear hown8 hg8 HOWN HROWL HVX hbx
              refine hK.out _ _ trivial (fun _ => ?_)
              clear hK K
              try simp only [Act.put, List.setIfInBounds_toArray, List.set_cons_zero, List.set_cons_succ]
              refine wpAnyH_ready (rs := [12]) (by kernel_rfl) (by simp) ?_
              refine AllReadyH.cons (o := { dst := some 80, op := .call { callee := .builtin .append, args := #[.tmp 76, .tmp 79], argTypes := #[24, 24] }, type := 24, pos := "law.go:120", after := #[{ on := 8, ground := .data }, { on := 11, ground := .data }, { on := 8, ground := .chain }], guard := none }) rfl (fun K hK => ?_) AllReadyH.nil
              have hbx := HV8.out.size
              refine app_secE tyO rfl (.tmp 76) (.tmp 79) rfl V.heap.size _ (esT ++ [((⟨0, bs⟩ : Sec), Ab, cb)]) rfl HO8.out A2 c2 (l.length - q) V.heap.size esD HDL.out rfl (HD2.out.1.below HV8.out) HD2.out.2 (l.length + 1) (by rw [List.length_append, HTL.out]; exact HK1.out.2.1) HK1.out.2.2 hbx ?_
              intro A9 c9 W9 hown9 hg9
              have HV9 := Lib.hid (HV8.out.grown hg9 HV8.out.size (fun i hi => (World.ownsRow.lt HO8.out i hi).1))
              obtain ⟨A0, c0, hv0, hrow0, hroom0, hnil0⟩ := hown9.row
              have HMM : Hid (Sli W9 W9.heap.size A9 c9 M) := Lib.hid (by
                injection hv0 with h1 h2 h3
                subst h1 h3
                have := secs_of hrow0 (fun e he => ((HLB.out e he).below HV9.out).more HV9.out.size)
                rw [HMP.out] at this
                exact ⟨this, by rw [← HMP.out]; simpa using hroom0, hnil0⟩)
              have HB9 := Lib.hid (HB5.out.trans (HV9.out.mono HB5.out.size))
              clear hv0 hrow0 hroom0 hnil0 hown9 hg9 HO8 HV8 hbx HV9
              refine hK.out _ _ trivial (fun _ => ?_)
              clear hK K
              try simp only [Act.put, List.setIfInBounds_toArray, List.set_cons_zero, List.set_cons_succ]
              refine wpAnyH_take (i := 13) (oi := { dst := some 11, op := .assign (.tmp 80), type := 24, pos := "law.go:120", after := #[{ on := 12, ground := .data }, { on := 12, ground := .chain }, { on := 0, ground := .phase }, { on := 1, ground := .phase }, { on := 2, ground := .phase }, { on := 3, ground := .phase }, { on := 4, ground := .phase }, { on := 5, ground := .phase }, { on := 6, ground := .phase }, { on := 7, ground := .phase }, { on := 8, ground := .phase }, { on := 9, ground := .phase }, { on := 10, ground := .phase }, { on := 11, ground := .phase }, { on := 12, ground := .phase }], guard := none }) (v := ?_) rfl (by kernel_rfl) (by kernel_rfl) (by kernel_rfl) (fun _ _ _ h => h) (Or.inl ⟨by rfl, ?_⟩) trivial ?_
              rotate_left
              · (intro w' _; go_simp) <;> with_reducible rfl
              try simp only [Act.put, List.setIfInBounds_toArray, List.set_cons_zero, List.set_cons_succ]
              refine wpAnyH_done (by kernel_rfl) ?_ _
              go_wp2_with fail
              refine (HMR.out _ _ _ HMM.out).mono ?_
              rintro e wa ⟨Aa, ca, rfl, hsa, _, hba⟩
              have HMa := Lib.hid (And.intro ((HMM.out.below hba).more hba.size) hsa)
              have HBa := Lib.hid (HB9.out.trans (hba.mono HB9.out.size))
              clear hsa hba HMM HB9 HMR
              go_wp2_with fail
              refine (HSP2.out _ _ _ HMa.out.2).mono ?_
              rintro e wb ⟨Ab2, cb2, rfl, hsb, _, hbb⟩
              have HMb := Lib.hid (And.intro ((HMa.out.1.below hbb).more hbb.size) hsb)
              have HBb := Lib.hid (HBa.out.trans (hbb.mono HBa.out.size))
              clear hsb hbb HMa HBa HSP2
              go_wp2_with fail
              refine (HT.out _ _ _ HMb.out.2).mono ?_
              rintro e wc ⟨Ac, cc, rfl, hsc, hbc⟩
              have HMc := Lib.hid (And.intro ((HMb.out.1.below hbc).more hbc.size) hsc)
              have HBc := Lib.hid (HBb.out.trans (hbc.mono HBb.out.size))
              clear hsc hbc HMb HBb
              go_wp2_with fail
              refine (HT.out _ _ _ HMc.out.1).mono ?_
              rintro e wd ⟨Ad, cd, rfl, hsd, hbd⟩
              have HMd := Lib.hid (And.intro ((HMc.out.2.below hbd).more hbd.size) hsd)
              have HBd := Lib.hid (HBc.out.trans (hbd.mono HBc.out.size))
              clear hsd hbd HMc HBc HT
              go_wp2_with fail
              refine (HSM.out _ _ _ _ _ HMd.out.1 HMd.out.2).mono ?_
              rintro e we ⟨rfl, me, rfl⟩
              have HBe := Lib.hid (below_drewN HBd.out me)
              clear HMd HBd HSM
              go_wp2
              go_ret
              exact ⟨rfl, HBe.out⟩
            · go_simp
              have hbL : Below (V.alloc (.cells #[] 37)).heap.size (V.alloc (.cells #[] 37)) ((V.alloc (.cells #[] 37)).alloc (.cells #[.int .i64 0, .slice Ab nb cb] 37)) := (Below.refl _ _).alloc (Nat.le_refl _) _
              have hrl := rowE_lit (V.alloc (.cells #[] 37)) 37 [((⟨0, bs⟩ : Sec), Ab, cb)] #[.int .i64 0, .slice Ab nb cb] 1 (by simp [els, el, HNB.out]) rfl (by simp [maxLen])
              have HRL : Hid (RowE ((V.alloc (.cells #[] 37)).alloc (.cells #[.int .i64 0, .slice Ab nb cb] 37)) (V.heap.size + 2) (some ⟨V.heap.size + 1, 0, none⟩) [((⟨0, bs⟩ : Sec), Ab, cb)]) := Lib.hid (by simpa using hrl)
              have HO00 := Lib.hid (ownX_keep HO0.out hbL)
              have HBL := Lib.hid (HBA.out.trans (hbL.mono HBA.out.size))
              have HGL : Hid (V.heap.size + 1 < ((V.alloc (.cells #[] 37)).alloc (.cells #[.int .i64 0, .slice Ab nb cb] 37)).heap.size) := Lib.hid (by simp)
              clear hbL hrl HO0 HBA
              have HO0 := HO00
              clear HO00
              refine hK.out _ _ trivial (fun _ => ?_)
              clear hK K
              try simp only [Act.put, List.setIfInBounds_toArray, List.set_cons_zero, List.set_cons_succ]
              refine wpAnyH_ready (rs := [4]) (by kernel_rfl) (by simp) ?_
              refine AllReadyH.cons (o := { dst := some 72, op := .call { callee := .builtin .append, args := #[.tmp 68, .tmp 71], argTypes := #[24, 24] }, type := 24, pos := "law.go:120", after := #[{ on := 0, ground := .data }, { on := 3, ground := .data }], guard := none }) rfl (fun K hK => ?_) AllReadyH.nil
              have hbx := HBL.out.size
              refine app_secE tyO rfl (.tmp 68) (.tmp 71) rfl V.heap.size (.slice (some ⟨V.heap.size, 0, none⟩) 0 0) [] rfl HO0.out A1 c1 q V.heap.size esT HTL.out rfl (HT2.out.1.below HBL.out) HT2.out.2 q (by simp) hq6 hbx ?_
              intro A4 c4 W4 hown4 hg4
              rw [List.nil_append] at hown4
              have HV4 := Lib.hid (HBL.out.grown hg4 HBL.out.size (fun i hi => (World.ownsRow.lt HO0.out i hi).1))
              clear hbx
              have HROWL := Lib.hid (rowE_same HRL.out (hg4.block (V.heap.size + 1) HGL.out (by simp [Value.ownBlock])))
              have HOWN := Lib.hid hown4
              have HVX := HV4
              clear hown4 hg4 HO0 HBL HRL HGL HV4
              refine hK.out _ _ trivial (fun _ => ?_)
              clear hK K
              try simp only [Act.put, List.setIfInBounds_toArray, List.set_cons_zero, List.set_cons_succ]
              refine wpAnyH_ready (rs := [8]) (by kernel_rfl) (by simp) ?_
              refine AllReadyH.cons (o := { dst := some 76, op := .call { callee := .builtin .append, args := #[.tmp 72, .tmp 75], argTypes := #[24, 24] }, type := 24, pos := "law.go:120", after := #[{ on := 4, ground := .data }, { on := 7, ground := .data }, { on := 4, ground := .chain }], guard := none }) rfl (fun K hK => ?_) AllReadyH.nil
              have hbx := HVX.out.size
              refine app_secE tyO rfl (.tmp 72) (.tmp 75) rfl V.heap.size _ esT rfl HOWN.out _ 1 1 _ [((⟨0, bs⟩ : Sec), Ab, cb)] rfl rfl HROWL.out (fun h => by cases h) (q + 1) (by rw [HTL.out]) HK1.out.1 hbx ?_
              intro A8 c8 W8 hown8 hg8
              have HV8 := Lib.hid (HVX.out.grown hg8 HVX.out.size (fun i hi => (World.ownsRow.lt HOWN.out i hi).1))
              have HO8 := Lib.hid hown8
              clear hown8 hg8 HOWN HROWL HVX hbx
              refine hK.out _ _ trivial (fun _ => ?_)
              clear hK K
              try simp only [Act.put, List.setIfInBounds_toArray, List.set_cons_zero, List.set_cons_succ]
              refine wpAnyH_ready (rs := [12]) (by kernel_rfl) (by simp) ?_
              refine AllReadyH.cons (o := { dst := some 80, op := .call { callee := .builtin .append, args := #[.tmp 76, .tmp 79], argTypes := #[24, 24] }, type := 24, pos := "law.go:120", after := #[{ on := 8, ground := .data }, { on := 11, ground := .data }, { on := 8, ground := .chain }], guard := none }) rfl (fun K hK => ?_) AllReadyH.nil
              have hbx := HV8.out.size
              refine app_secE tyO rfl (.tmp 76) (.tmp 79) rfl V.heap.size _ (esT ++ [((⟨0, bs⟩ : Sec), Ab, cb)]) rfl HO8.out A2 c2 (l.length - q) V.heap.size esD HDL.out rfl (HD2.out.1.below HV8.out) HD2.out.2 (l.length + 1) (by rw [List.length_append, HTL.out]; exact HK1.out.2.1) HK1.out.2.2 hbx ?_
              intro A9 c9 W9 hown9 hg9
              have HV9 := Lib.hid (HV8.out.grown hg9 HV8.out.size (fun i hi => (World.ownsRow.lt HO8.out i hi).1))
              obtain ⟨A0, c0, hv0, hrow0, hroom0, hnil0⟩ := hown9.row
              have HMM : Hid (Sli W9 W9.heap.size A9 c9 M) := Lib.hid (by
                injection hv0 with h1 h2 h3
                subst h1 h3
                have := secs_of hrow0 (fun e he => ((HLB.out e he).below HV9.out).more HV9.out.size)
                rw [HMP.out] at this
                exact ⟨this, by rw [← HMP.out]; simpa using hroom0, hnil0⟩)
              have HB9 := Lib.hid (HB5.out.trans (HV9.out.mono HB5.out.size))
              clear hv0 hrow0 hroom0 hnil0 hown9 hg9 HO8 HV8 hbx HV9
              refine hK.out _ _ trivial (fun _ => ?_)
              clear hK K
              try simp only [Act.put, List.setIfInBounds_toArray, List.set_cons_zero, List.set_cons_succ]
              refine wpAnyH_take (i := 13) (oi := { dst := some 11, op := .assign (.tmp 80), type := 24, pos := "law.go:120", after := #[{ on := 12, ground := .data }, { on := 12, ground := .chain }, { on := 0, ground := .phase }, { on := 1, ground := .phase }, { on := 2, ground := .phase }, { on := 3, ground := .phase }, { on := 4, ground := .phase }, { on := 5, ground := .phase }, { on := 6, ground := .phase }, { on := 7, ground := .phase }, { on := 8, ground := .phase }, { on := 9, ground := .phase }, { on := 10, ground := .phase }, { on := 11, ground := .phase }, { on := 12, ground := .phase }], guard := none }) (v := ?_) rfl (by kernel_rfl) (by kernel_rfl) (by kernel_rfl) (fun _ _ _ h => h) (Or.inl ⟨by rfl, ?_⟩) trivial ?_
              rotate_left
              · (intro w' _; go_simp) <;> with_reducible rfl
              try simp only [Act.put, List.setIfInBounds_toArray, List.set_cons_zero, List.set_cons_succ]
              refine wpAnyH_done (by kernel_rfl) ?_ _
              go_wp2_with fail
              refine (HMR.out _ _ _ HMM.out).mono ?_
              rintro e wa ⟨Aa, ca, rfl, hsa, _, hba⟩
              have HMa := Lib.hid (And.intro ((HMM.out.below hba).more hba.size) hsa)
              have HBa := Lib.hid (HB9.out.trans (hba.mono HB9.out.size))
              clear hsa hba HMM HB9 HMR
              go_wp2_with fail
              refine (HSP2.out _ _ _ HMa.out.2).mono ?_
              rintro e wb ⟨Ab2, cb2, rfl, hsb, _, hbb⟩
              have HMb := Lib.hid (And.intro ((HMa.out.1.below hbb).more hbb.size) hsb)
              have HBb := Lib.hid (HBa.out.trans (hbb.mono HBa.out.size))
              clear hsb hbb HMa HBa HSP2
              go_wp2_with fail
              refine (HT.out _ _ _ HMb.out.2).mono ?_
              rintro e wc ⟨Ac, cc, rfl, hsc, hbc⟩
              have HMc := Lib.hid (And.intro ((HMb.out.1.below hbc).more hbc.size) hsc)
              have HBc := Lib.hid (HBb.out.trans (hbc.mono HBb.out.size))
              clear hsc hbc HMb HBb
              go_wp2_with fail
              refine (HT.out _ _ _ HMc.out.1).mono ?_
              rintro e wd ⟨Ad, cd, rfl, hsd, hbd⟩
              have HMd := Lib.hid (And.intro ((HMc.out.2.below hbd).more hbd.size) hsd)
              have HBd := Lib.hid (HBc.out.trans (hbd.mono HBc.out.size))
              clear hsd hbd HMc HBc HT
              go_wp2_with fail
              refine (HSM.out _ _ _ _ _ HMd.out.1 HMd.out.2).mono ?_
              rintro e we ⟨rfl, me, rfl⟩
              have HBe := Lib.hid (below_drewN HBd.out me)
              clear HMd HBd HSM
              go_wp2
              go_ret
              exact ⟨rfl, HBe.out⟩
          · go_simp
            have hbA : Below V.heap.size V (V.alloc (.cells #[.int .i64 0, .slice Ab nb cb] 37)) := (Below.refl _ _).alloc (Nat.le_refl _) _
            have HBA := Lib.hid hbA
            have HRL0 := Lib.hid (rowE_lit V 37 [((⟨0, bs⟩ : Sec), Ab, cb)] #[.int .i64 0, .slice Ab nb cb] 1 (by simp [els, el, HNB.out]) rfl (by simp [maxLen]))
            clear hbA
            refine hK.out _ _ trivial (fun _ => ?_)
            clear hK K
            try simp only [Act.put, List.setIfInBounds_toArray, List.set_cons_zero, List.set_cons_succ]
            refine wpAnyH_ready (rs := [0]) (by kernel_rfl) (by simp) ?_
            refine AllReadyH.cons (o := { dst := some 68, op := .buildSlice 24 0 #[], type := 24, pos := "law.go:120", after := #[], guard := none }) rfl (fun K hK => ?_) AllReadyH.nil
            go_simp
            have hbL : Below (V.alloc (.cells #[.int .i64 0, .slice Ab nb cb] 37)).heap.size (V.alloc (.cells #[.int .i64 0, .slice Ab nb cb] 37)) ((V.alloc (.cells #[.int .i64 0, .slice Ab nb cb] 37)).alloc (.cells #[] 37)) := (Below.refl _ _).alloc (Nat.le_refl _) _
            have hol := ownX_lit (V.alloc (.cells #[.int .i64 0, .slice Ab nb cb] 37)) 37 [] #[] 0 rfl rfl (by simp [maxLen])
            have HO0 : Hid (OwnX ((V.alloc (.cells #[.int .i64 0, .slice Ab nb cb] 37)).alloc (.cells #[] 37)) 37 V.heap.size (.slice (some ⟨V.heap.size + 1, 0, none⟩) 0 0) []) := Lib.hid (ownX_from (by simpa using hol) (Nat.le_succ _))
            have HBL := Lib.hid (HBA.out.trans (hbL.mono HBA.out.size))
            have hrl2 := HRL0.out.below (w' := (V.alloc (.cells #[.int .i64 0, .slice Ab nb cb] 37)).alloc (.cells #[] 37)) ((Below.refl _ _).alloc (by simp) _)
            have HRL := Lib.hid hrl2
            have HGL : Hid (V.heap.size < ((V.alloc (.cells #[.int .i64 0, .slice Ab nb cb] 37)).alloc (.cells #[] 37)).heap.size) := Lib.hid (by simp; omega)
            clear hbL hol HBA HRL0 hrl2
            refine hK.out _ _ trivial (fun _ => ?_)
            clear hK K
            try simp only [Act.put, List.setIfInBounds_toArray, List.set_cons_zero, List.set_cons_succ]
            refine wpAnyH_ready (rs := [4]) (by kernel_rfl) (by simp) ?_
            refine AllReadyH.cons (o := { dst := some 72, op := .call { callee := .builtin .append, args := #[.tmp 68, .tmp 71], argTypes := #[24, 24] }, type := 24, pos := "law.go:120", after := #[{ on := 0, ground := .data }, { on := 3, ground := .data }], guard := none }) rfl (fun K hK => ?_) AllReadyH.nil
            have hbx := HBL.out.size
            refine app_secE tyO rfl (.tmp 68) (.tmp 71) rfl V.heap.size (.slice (some ⟨V.heap.size + 1, 0, none⟩) 0 0) [] rfl HO0.out A1 c1 q V.heap.size esT HTL.out rfl (HT2.out.1.below HBL.out) HT2.out.2 q (by simp) hq6 hbx ?_
            intro A4 c4 W4 hown4 hg4
            rw [List.nil_append] at hown4
            have HV4 := Lib.hid (HBL.out.grown hg4 HBL.out.size (fun i hi => (World.ownsRow.lt HO0.out i hi).1))
            clear hbx
            have HROWL := Lib.hid (rowE_same HRL.out (hg4.block V.heap.size HGL.out (by simp [Value.ownBlock])))
            have HOWN := Lib.hid hown4
            have HVX := HV4
            clear hown4 hg4 HO0 HBL HRL HGL HV4
            refine hK.out _ _ trivial (fun _ => ?_)
            clear hK K
            try simp only [Act.put, List.setIfInBounds_toArray, List.set_cons_zero, List.set_cons_succ]
            refine wpAnyH_ready (rs := [8]) (by kernel_rfl) (by simp) ?_
            refine AllReadyH.cons (o := { dst := some 76, op := .call { callee := .builtin .append, args := #[.tmp 72, .tmp 75], argTypes := #[24, 24] }, type := 24, pos := "law.go:120", after := #[{ on := 4, ground := .data }, { on := 7, ground := .data }, { on := 4, ground := .chain }], guard := none }) rfl (fun K hK => ?_) AllReadyH.nil
            have hbx := HVX.out.size
            refine app_secE tyO rfl (.tmp 72) (.tmp 75) rfl V.heap.size _ esT rfl HOWN.out _ 1 1 _ [((⟨0, bs⟩ : Sec), Ab, cb)] rfl rfl HROWL.out (fun h => by cases h) (q + 1) (by rw [HTL.out]) HK1.out.1 hbx ?_
            intro A8 c8 W8 hown8 hg8
            have HV8 := Lib.hid (HVX.out.grown hg8 HVX.out.size (fun i hi => (World.ownsRow.lt HOWN.out i hi).1))
            have HO8 := Lib.hid hown8
            clear hown8 hg8 HOWN HROWL HVX hbx
            refine hK.out _ _ trivial (fun _ => ?_)
            clear hK K
            try simp only [Act.put, List.setIfInBounds_toArray, List.set_cons_zero, List.set_cons_succ]
            refine wpAnyH_ready (rs := [12]) (by kernel_rfl) (by simp) ?_
            refine AllReadyH.cons (o := { dst := some 80, op := .call { callee := .builtin .append, args := #[.tmp 76, .tmp 79], argTypes := #[24, 24] }, type := 24, pos := "law.go:120", after := #[{ on := 8, ground := .data }, { on := 11, ground := .data }, { on := 8, ground := .chain }], guard := none }) rfl (fun K hK => ?_) AllReadyH.nil
            have hbx := HV8.out.size
            refine app_secE tyO rfl (.tmp 76) (.tmp 79) rfl V.heap.size _ (esT ++ [((⟨0, bs⟩ : Sec), Ab, cb)]) rfl HO8.out A2 c2 (l.length - q) V.heap.size esD HDL.out rfl (HD2.out.1.below HV8.out) HD2.out.2 (l.length + 1) (by rw [List.length_append, HTL.out]; exact HK1.out.2.1) HK1.out.2.2 hbx ?_
            intro A9 c9 W9 hown9 hg9
            have HV9 := Lib.hid (HV8.out.grown hg9 HV8.out.size (fun i hi => (World.ownsRow.lt HO8.out i hi).1))
            obtain ⟨A0, c0, hv0, hrow0, hroom0, hnil0⟩ := hown9.row
            have HMM : Hid (Sli W9 W9.heap.size A9 c9 M) := Lib.hid (by
              injection hv0 with h1 h2 h3
              subst h1 h3
              have := secs_of hrow0 (fun e he => ((HLB.out e he).below HV9.out).more HV9.out.size)
              rw [HMP.out] at this
              exact ⟨this, by rw [← HMP.out]; simpa using hroom0, hnil0⟩)
            have HB9 := Lib.hid (HB5.out.trans (HV9.out.mono HB5.out.size))
            clear hv0 hrow0 hroom0 hnil0 hown9 hg9 HO8 HV8 hbx HV9
            refine hK.out _ _ trivial (fun _ => ?_)
            clear hK K
            try simp only [Act.put, List.setIfInBounds_toArray, List.set_cons_zero, List.set_cons_succ]
            refine wpAnyH_take (i := 13) (oi := { dst := some 11, op := .assign (.tmp 80), type := 24, pos := "law.go:120", after := #[{ on := 12, ground := .data }, { on := 12, ground := .chain }, { on := 0, ground := .phase }, { on := 1, ground := .phase }, { on := 2, ground := .phase }, { on := 3, ground := .phase }, { on := 4, ground := .phase }, { on := 5, ground := .phase }, { on := 6, ground := .phase }, { on := 7, ground := .phase }, { on := 8, ground := .phase }, { on := 9, ground := .phase }, { on := 10, ground := .phase }, { on := 11, ground := .phase }, { on := 12, ground := .phase }], guard := none }) (v := ?_) rfl (by kernel_rfl) (by kernel_rfl) (by kernel_rfl) (fun _ _ _ h => h) (Or.inl ⟨by rfl, ?_⟩) trivial ?_
            rotate_left
            · (intro w' _; go_simp) <;> with_reducible rfl
            try simp only [Act.put, List.setIfInBounds_toArray, List.set_cons_zero, List.set_cons_succ]
            refine wpAnyH_done (by kernel_rfl) ?_ _
            go_wp2_with fail
            refine (HMR.out _ _ _ HMM.out).mono ?_
            rintro e wa ⟨Aa, ca, rfl, hsa, _, hba⟩
            have HMa := Lib.hid (And.intro ((HMM.out.below hba).more hba.size) hsa)
            have HBa := Lib.hid (HB9.out.trans (hba.mono HB9.out.size))
            clear hsa hba HMM HB9 HMR
            go_wp2_with fail
            refine (HSP2.out _ _ _ HMa.out.2).mono ?_
            rintro e wb ⟨Ab2, cb2, rfl, hsb, _, hbb⟩
            have HMb := Lib.hid (And.intro ((HMa.out.1.below hbb).more hbb.size) hsb)
            have HBb := Lib.hid (HBa.out.trans (hbb.mono HBa.out.size))
            clear hsb hbb HMa HBa HSP2
            go_wp2_with fail
            refine (HT.out _ _ _ HMb.out.2).mono ?_
            rintro e wc ⟨Ac, cc, rfl, hsc, hbc⟩
            have HMc := Lib.hid (And.intro ((HMb.out.1.below hbc).more hbc.size) hsc)
            have HBc := Lib.hid (HBb.out.trans (hbc.mono HBb.out.size))
            clear hsc hbc HMb HBb
            go_wp2_with fail
            refine (HT.out _ _ _ HMc.out.1).mono ?_
            rintro e wd ⟨Ad, cd, rfl, hsd, hbd⟩
            have HMd := Lib.hid (And.intro ((HMc.out.2.below hbd).more hbd.size) hsd)
            have HBd := Lib.hid (HBc.out.trans (hbd.mono HBc.out.size))
            clear hsd hbd HMc HBc HT
            go_wp2_with fail
            refine (HSM.out _ _ _ _ _ HMd.out.1 HMd.out.2).mono ?_
            rintro e we ⟨rfl, me, rfl⟩
            have HBe := Lib.hid (below_drewN HBd.out me)
            clear HMd HBd HSM
            go_wp2
            go_ret
            exact ⟨rfl, HBe.out⟩
        · have h6i : 60000 < (n : Int) := by omega
          subst hk
          clear HSP HJR HMore HM3 HT HSM
          go_wp2
          go_ret
          exact ⟨rfl, HB3.out⟩
      · have hne : ((k : Int) != 0) = true := by simp; omega
        clear HSP HJR HMore HM3 HT HSM
        go_wp2
        go_ret
        exact ⟨rfl, HB3.out⟩
end
theorem more_law (A Ab : Option Addr) (l : List Sec) (bs : List Nat) (c cb : Nat) (at' : Int) (w : World) (hs : Sli w w.heap.size A c l) (hbs : Slc w w.heap.size Ab cb bs) :
    Calls Try.prog 6 #[.slice A l.length c, .int .i64 at', .slice Ab bs.length cb] w fun e w' => e = .returned (.bool true) ∧ Below w.heap.size w w' := by
  by_cases h1 : shortS l = true
  · by_cases h2 : at' < 0
    · exact more_out A Ab l c bs.length cb at' w hs (.inr (.inl h2))
    · by_cases h3 : (l.length : Int) < at'
      · exact more_out A Ab l c bs.length cb at' w hs (.inr (.inr (.inl h3)))
      · by_cases h4 : 100 < (bs.length : Int)
        · exact more_out A Ab l c bs.length cb at' w hs (.inr (.inr (.inr h4)))
        · obtain ⟨q, rfl⟩ : ∃ q : Nat, at' = (q : Int) := ⟨at'.toNat, by omega⟩
          exact more_in A Ab l c bs.length cb q bs w hs h1 (by omega) (by omega) rfl hbs
  · exact more_out A Ab l c bs.length cb at' w hs (.inl (by simpa using h1))
end Go.Proofs.Ytelcoeeijkainaa.Sec
