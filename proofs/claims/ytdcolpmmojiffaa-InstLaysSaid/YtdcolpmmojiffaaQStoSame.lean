/-
  StoSame: The given Same of two stores: whether they are the same, part by part. Conditions: both lie in memory, and their lists are no longer than 2^47. (Written by wip/tools/genstosame.py.)
-/
import Derived.Test.YtdcolpmmojiffaaQStoMem
namespace Go.Proofs.Ytdcolpmmojiffaa.Sto
open Go.RowKit Leb Typ Utf

def Ret (w : World) (v : Value) (e : Ending) (w' : World) : Prop := e = .returned v ∧ Below w.heap.size w w'
def CT (w : World) (f : Nat) (args : Array Value) (v : Value) : Prop := ∀ V, Below w.heap.size w V → Calls Try.prog f args V (Ret V v)
theorem CT.go {w V : World} {f : Nat} {args : Array Value} {v : Value} (h : CT w f args v) (hb : Below w.heap.size w V) : Calls Try.prog f args V (Ret V v) := h V hb
theorem below_drewN (w : World) (m : Nat) : Below w.heap.size w (w.drewN m) := ⟨rfl, rfl, rfl, Nat.le_refl _, fun _ _ => rfl⟩
theorem strOf_eq {l l' : List Nat} (h : ∀ x ∈ l, x < 256) (h' : ∀ x ∈ l', x < 256) : strOf l = strOf l' ↔ l = l' := by
  constructor
  · intro e
    rw [← bl_strOf l h, ← bl_strOf l' h', e]
  · rintro rfl
    rfl
theorem strOf_list {l l' : List Nat} (h : ∀ x ∈ l, x < 256) (h' : ∀ x ∈ l', x < 256) (e : (strOf l).toList = (strOf l').toList) : l = l' := by
  rw [ByteArray.toList_eq, ByteArray.toList_eq] at e
  rw [← bl_strOf l h, ← bl_strOf l' h']
  unfold bl
  rw [e]
theorem conv_zero (w : World) (A : Option Addr) (c : Nat) : (convert 22 9 (.slice A 0 c)).run Try.prog w = .ok (.string (strOf [])) w := by
  have hs : Try.prog.underlying 22 = some (.slice 5) := Try.underlying22
  have he : Try.prog.underlying 5 = some (.int .u8) := Try.underlying5
  have hd := Try.underlying9
  rw [run_convert_bytes_string w _ _ _ A 0 c hs he hd]
  cases A <;> simp [Conv.bytesToString, loadCells]
  all_goals rfl
theorem conv_any {w : World} {B : Nat} {A : Option Addr} {l : List Nat} (hb : Bytes w B A l) (c : Nat) :
    (convert 22 9 (.slice A l.length c)).run Try.prog w = .ok (.string (strOf l)) w := by
  cases l with
  | nil => exact conv_zero w A c
  | cons x r =>
    obtain ⟨b, off, rfl, _, _⟩ := hb.2 (by simp)
    exact conv_str hb c
def sameB (g h : GSt) : Bool := decide (g.mem = h.mem) && decide (g.cap = h.cap) && decide (g.tab = h.tab) && decide (g.glo = h.glo) && decide (g.els = h.els) && decide (g.dat = h.dat)
theorem sameB_iff (g h : GSt) : sameB g h = true ↔ g = h := by
  unfold sameB
  simp only [Bool.and_eq_true, decide_eq_true_eq]
  constructor
  · rintro ⟨⟨⟨⟨⟨h1, h2⟩, h3⟩, h4⟩, h5⟩, h6⟩
    cases g; cases h
    simp only at *
    rw [h1, h2, h3, h4, h5, h6]
  · rintro rfl
    exact ⟨⟨⟨⟨⟨rfl, rfl⟩, rfl⟩, rfl⟩, rfl⟩, rfl⟩
set_option maxRecDepth 100000 in
set_option maxHeartbeats 60000000 in
theorem rsame_any (p q : PSt) (g h : GSt) (w : World) (hg : StL w w.heap.size p g) (hh : StL w w.heap.size q h) (fg : g.fits) (fh : h.fits) : Calls Try.prog 10 #[.agg #[.slice p.A0 g.mem.length p.c0, .int .i64 g.cap, .slice p.A2 g.tab.length p.c2, .slice p.A3 g.glo.length p.c3, .slice p.A4 g.els.length p.c4, .slice p.A5 g.dat.length p.c5], .agg #[.slice q.A0 h.mem.length q.c0, .int .i64 h.cap, .slice q.A2 h.tab.length q.c2, .slice q.A3 h.glo.length q.c3, .slice q.A4 h.els.length q.c4, .slice q.A5 h.dat.length q.c5]] w (Ret w (.bool (sameB g h))) := by
  have HI : Hid (∀ x, decide (g.tab = h.tab) = x → CT w 20 #[.slice p.A2 g.tab.length p.c2, .slice q.A2 h.tab.length q.c2] (.bool x)) := Lib.hid fun x hx V hV => (sameInts_any _ _ _ _ p.c2 q.c2 _ _ V (hg.tab.below hV) (hh.tab.below hV) fg.2.1 fh.2.1).mono fun e V' hr => ⟨by rw [hr.1, hx], by obtain ⟨m, rfl⟩ := hr.2; exact below_drewN V m⟩
  have HN : Hid (∀ x, decide (g.glo = h.glo) = x → CT w 21 #[.slice p.A3 g.glo.length p.c3, .slice q.A3 h.glo.length q.c3] (.bool x)) := Lib.hid fun x hx V hV => (sameNums_any _ _ _ _ p.c3 q.c3 _ _ V (hg.glo.below hV) (hh.glo.below hV) fg.2.2.1 fh.2.2.1).mono fun e V' hr => ⟨by rw [hr.1, hx], by obtain ⟨m, rfl⟩ := hr.2; exact below_drewN V m⟩
  have HE : Hid (∀ x, decide (g.els = h.els) = x → CT w 22 #[.slice p.A4 g.els.length p.c4, .slice q.A4 h.els.length q.c4] (.bool x)) := Lib.hid fun x hx V hV => (sameBools_any _ _ _ _ p.c4 q.c4 _ _ V (hg.els.below hV) (hh.els.below hV) fg.2.2.2.1 fh.2.2.2.1).mono fun e V' hr => ⟨by rw [hr.1, hx], by obtain ⟨m, rfl⟩ := hr.2; exact below_drewN V m⟩
  have HT : Hid (∀ x, decide (g.dat = h.dat) = x → CT w 22 #[.slice p.A5 g.dat.length p.c5, .slice q.A5 h.dat.length q.c5] (.bool x)) := Lib.hid fun x hx V hV => (sameBools_any _ _ _ _ p.c5 q.c5 _ _ V (hg.dat.below hV) (hh.dat.below hV) fg.2.2.2.2 fh.2.2.2.2).mono fun e V' hr => ⟨by rw [hr.1, hx], by obtain ⟨m, rfl⟩ := hr.2; exact below_drewN V m⟩
  have HCA : Hid (∀ V, At w w V → (convert 22 9 (.slice p.A0 g.mem.length p.c0)).run Try.prog V = .ok (.string (strOf g.mem)) V) := Lib.hid fun V hV => conv_any (hg.mem.below hV.1) _
  have HCB : Hid (∀ V, At w w V → (convert 22 9 (.slice q.A0 h.mem.length q.c0)).run Try.prog V = .ok (.string (strOf h.mem)) V) := Lib.hid fun V hV => conv_any (hh.mem.below hV.1) _
  have HEQ := Lib.hid (strOf_eq hg.mem.1 hh.mem.1)
  have HEL := Lib.hid (strOf_list hg.mem.1 hh.mem.1)
  have HSB : Hid (sameB g h = (decide (g.mem = h.mem) && decide (g.cap = h.cap) && decide (g.tab = h.tab) && decide (g.glo = h.glo) && decide (g.els = h.els) && decide (g.dat = h.dat))) := Lib.hid rfl
  generalize sameB g h = r at *
  clear hg hh fg fh
  have HD := Lib.hid (At.refl (Below.refl w.heap.size w))
  go_enter Try.func10, Try.ntmps10
  go_upto_region 1 with fail
  refine (show ∀ U, (At w U U ∧ BoxS U w.heap.size p g ∧ BoxS U (w.heap.size + 1) q h) → Code.wp _ _ _ _ U from fun W1 hF => ?_) _ ?_
  rotate_left
  · exact ⟨At.refl (below_one (below_one HD.out.1 _) _), boxs_past (boxs_new w p g) _, by simpa using boxs_new (w.alloc (.cells #[.slice p.A0 g.mem.length p.c0, .int .i64 g.cap, .slice p.A2 g.tab.length p.c2, .slice p.A3 g.glo.length p.c3, .slice p.A4 g.els.length p.c4, .slice p.A5 g.dat.length p.c5] 27)) q h⟩
  clear HD
  obtain ⟨hat, bx0, bx1⟩ := hF
  have HD := Lib.hid hat
  clear hat
  generalize w.heap.size = na at *
  generalize na + 1 = nb at *
  have HCELL : Hid (∀ V, At w W1 V → Fs [(⟨na, 0, none⟩, .slice p.A0 g.mem.length p.c0), (⟨na, 1, none⟩, .int .i64 g.cap), (⟨na, 2, none⟩, .slice p.A2 g.tab.length p.c2), (⟨na, 3, none⟩, .slice p.A3 g.glo.length p.c3), (⟨na, 4, none⟩, .slice p.A4 g.els.length p.c4), (⟨na, 5, none⟩, .slice p.A5 g.dat.length p.c5), (⟨nb, 0, none⟩, .slice q.A0 h.mem.length q.c0), (⟨nb, 1, none⟩, .int .i64 h.cap), (⟨nb, 2, none⟩, .slice q.A2 h.tab.length q.c2), (⟨nb, 3, none⟩, .slice q.A3 h.glo.length q.c3), (⟨nb, 4, none⟩, .slice q.A4 h.els.length q.c4), (⟨nb, 5, none⟩, .slice q.A5 h.dat.length q.c5)] V ∧ Below w.heap.size w V) := Lib.hid fun V hV => by
    obtain ⟨k0, k1, k2, k3, k4, k5⟩ := (bx0.keep hV.2 bx0.lt).cells
    obtain ⟨m0, m1, m2, m3, m4, m5⟩ := (bx1.keep hV.2 bx1.lt).cells
    exact ⟨⟨k0, k1, k2, k3, k4, k5, m0, m1, m2, m3, m4, m5, trivial⟩, hV.1⟩
  clear bx0 bx1
  cases d0 : decide (g.mem = h.mem) with
  | false =>
    have hr := HSB.out
    rw [d0] at hr
    obtain rfl : r = false := by rw [hr]; first | rfl | simp
    have e0 : ¬ (strOf g.mem).toList = (strOf h.mem).toList := fun e => of_decide_eq_false d0 (HEL.out e)
    clear hr HSB HEQ HEL d0
    as_aux_lemma =>
    obtain ⟨⟨s0, s1, s2, s3, s4, s5, s6, s7, s8, s9, s10, s11, -⟩, hbb⟩ := HCELL.out _ HD.out
    have hca := HCA.out _ ⟨hbb, hbb⟩
    have hcb := HCB.out _ ⟨hbb, hbb⟩
    generalize strOf g.mem = t1 at *
    generalize strOf h.mem = t2 at *
    go_wp2
    all_goals first | (go_ret; exact ⟨rfl, HD.out.1⟩) | (exfalso; exact e0 (by assumption))
  | true =>
    cases d1 : decide (g.cap = h.cap) with
    | false =>
      have hr := HSB.out
      rw [d0, d1] at hr
      obtain rfl : r = false := by rw [hr]; first | rfl | simp
      have e0 : strOf g.mem = strOf h.mem := HEQ.out.2 (of_decide_eq_true d0)
      have e1 : (g.cap == h.cap) = false := by rw [← d1]; rfl
      clear hr HSB HEQ HEL d0 d1
      as_aux_lemma =>
      obtain ⟨⟨s0, s1, s2, s3, s4, s5, s6, s7, s8, s9, s10, s11, -⟩, hbb⟩ := HCELL.out _ HD.out
      have hca := HCA.out _ ⟨hbb, hbb⟩
      have hcb := HCB.out _ ⟨hbb, hbb⟩
      generalize strOf g.mem = t1 at *
      generalize strOf h.mem = t2 at *
      subst e0
      go_wp2
      go_ret
      exact ⟨rfl, HD.out.1⟩
    | true =>
      cases d2 : decide (g.tab = h.tab) with
      | false =>
        have hr := HSB.out
        rw [d0, d1, d2] at hr
        obtain rfl : r = false := by rw [hr]; first | rfl | simp
        have H2 := Lib.hid (HI.out false d2)
        have e0 : strOf g.mem = strOf h.mem := HEQ.out.2 (of_decide_eq_true d0)
        have e1 : (g.cap == h.cap) = true := by rw [← d1]; rfl
        clear hr HSB HEQ HEL d0 d1 d2
        as_aux_lemma =>
        obtain ⟨⟨s0, s1, s2, s3, s4, s5, s6, s7, s8, s9, s10, s11, -⟩, hbb⟩ := HCELL.out _ HD.out
        have hca := HCA.out _ ⟨hbb, hbb⟩
        have hcb := HCB.out _ ⟨hbb, hbb⟩
        generalize strOf g.mem = t1 at *
        generalize strOf h.mem = t2 at *
        subst e0
        go_wp2_with fail
        refine (H2.out.go HD.out.1).mono ?_
        rintro en Vn ⟨rfl, hbel⟩
        replace HD := Lib.hid (HD.out.next hbel)
        clear hbel s0 s1 s2 s3 s4 s5 s6 s7 s8 s9 s10 s11 hbb hca hcb
        obtain ⟨⟨s0, s1, s2, s3, s4, s5, s6, s7, s8, s9, s10, s11, -⟩, hbb⟩ := HCELL.out _ HD.out
        rename World => V
        go_wp2
        go_ret
        exact ⟨rfl, HD.out.1⟩
      | true =>
        cases d3 : decide (g.glo = h.glo) with
        | false =>
          have hr := HSB.out
          rw [d0, d1, d2, d3] at hr
          obtain rfl : r = false := by rw [hr]; first | rfl | simp
          have H2 := Lib.hid (HI.out true d2)
          have H3 := Lib.hid (HN.out false d3)
          have e0 : strOf g.mem = strOf h.mem := HEQ.out.2 (of_decide_eq_true d0)
          have e1 : (g.cap == h.cap) = true := by rw [← d1]; rfl
          clear hr HSB HEQ HEL d0 d1 d2 d3
          as_aux_lemma =>
          obtain ⟨⟨s0, s1, s2, s3, s4, s5, s6, s7, s8, s9, s10, s11, -⟩, hbb⟩ := HCELL.out _ HD.out
          have hca := HCA.out _ ⟨hbb, hbb⟩
          have hcb := HCB.out _ ⟨hbb, hbb⟩
          generalize strOf g.mem = t1 at *
          generalize strOf h.mem = t2 at *
          subst e0
          go_wp2_with fail
          refine (H2.out.go HD.out.1).mono ?_
          rintro en Vn ⟨rfl, hbel⟩
          replace HD := Lib.hid (HD.out.next hbel)
          clear hbel s0 s1 s2 s3 s4 s5 s6 s7 s8 s9 s10 s11 hbb hca hcb
          obtain ⟨⟨s0, s1, s2, s3, s4, s5, s6, s7, s8, s9, s10, s11, -⟩, hbb⟩ := HCELL.out _ HD.out
          rename World => V
          go_wp2_with fail
          refine (H3.out.go HD.out.1).mono ?_
          rintro en Vn ⟨rfl, hbel⟩
          replace HD := Lib.hid (HD.out.next hbel)
          clear hbel s0 s1 s2 s3 s4 s5 s6 s7 s8 s9 s10 s11 hbb
          obtain ⟨⟨s0, s1, s2, s3, s4, s5, s6, s7, s8, s9, s10, s11, -⟩, hbb⟩ := HCELL.out _ HD.out
          rename World => V
          go_wp2
          go_ret
          exact ⟨rfl, HD.out.1⟩
        | true =>
          cases d4 : decide (g.els = h.els) with
          | false =>
            have hr := HSB.out
            rw [d0, d1, d2, d3, d4] at hr
            obtain rfl : r = false := by rw [hr]; first | rfl | simp
            have H2 := Lib.hid (HI.out true d2)
            have H3 := Lib.hid (HN.out true d3)
            have H4 := Lib.hid (HE.out false d4)
            have e0 : strOf g.mem = strOf h.mem := HEQ.out.2 (of_decide_eq_true d0)
            have e1 : (g.cap == h.cap) = true := by rw [← d1]; rfl
            clear hr HSB HEQ HEL d0 d1 d2 d3 d4
            as_aux_lemma =>
            obtain ⟨⟨s0, s1, s2, s3, s4, s5, s6, s7, s8, s9, s10, s11, -⟩, hbb⟩ := HCELL.out _ HD.out
            have hca := HCA.out _ ⟨hbb, hbb⟩
            have hcb := HCB.out _ ⟨hbb, hbb⟩
            generalize strOf g.mem = t1 at *
            generalize strOf h.mem = t2 at *
            subst e0
            go_wp2_with fail
            refine (H2.out.go HD.out.1).mono ?_
            rintro en Vn ⟨rfl, hbel⟩
            replace HD := Lib.hid (HD.out.next hbel)
            clear hbel s0 s1 s2 s3 s4 s5 s6 s7 s8 s9 s10 s11 hbb hca hcb
            obtain ⟨⟨s0, s1, s2, s3, s4, s5, s6, s7, s8, s9, s10, s11, -⟩, hbb⟩ := HCELL.out _ HD.out
            rename World => V
            go_wp2_with fail
            refine (H3.out.go HD.out.1).mono ?_
            rintro en Vn ⟨rfl, hbel⟩
            replace HD := Lib.hid (HD.out.next hbel)
            clear hbel s0 s1 s2 s3 s4 s5 s6 s7 s8 s9 s10 s11 hbb
            obtain ⟨⟨s0, s1, s2, s3, s4, s5, s6, s7, s8, s9, s10, s11, -⟩, hbb⟩ := HCELL.out _ HD.out
            rename World => V
            go_wp2_with fail
            refine (H4.out.go HD.out.1).mono ?_
            rintro en Vn ⟨rfl, hbel⟩
            replace HD := Lib.hid (HD.out.next hbel)
            clear hbel s0 s1 s2 s3 s4 s5 s6 s7 s8 s9 s10 s11 hbb
            obtain ⟨⟨s0, s1, s2, s3, s4, s5, s6, s7, s8, s9, s10, s11, -⟩, hbb⟩ := HCELL.out _ HD.out
            rename World => V
            go_wp2
            go_ret
            exact ⟨rfl, HD.out.1⟩
          | true =>
            cases d5 : decide (g.dat = h.dat) with
            | false =>
              have hr := HSB.out
              rw [d0, d1, d2, d3, d4, d5] at hr
              obtain rfl : r = false := by rw [hr]; first | rfl | simp
              have H2 := Lib.hid (HI.out true d2)
              have H3 := Lib.hid (HN.out true d3)
              have H4 := Lib.hid (HE.out true d4)
              have H5 := Lib.hid (HT.out false d5)
              have e0 : strOf g.mem = strOf h.mem := HEQ.out.2 (of_decide_eq_true d0)
              have e1 : (g.cap == h.cap) = true := by rw [← d1]; rfl
              clear hr HSB HEQ HEL d0 d1 d2 d3 d4 d5
              as_aux_lemma =>
              obtain ⟨⟨s0, s1, s2, s3, s4, s5, s6, s7, s8, s9, s10, s11, -⟩, hbb⟩ := HCELL.out _ HD.out
              have hca := HCA.out _ ⟨hbb, hbb⟩
              have hcb := HCB.out _ ⟨hbb, hbb⟩
              generalize strOf g.mem = t1 at *
              generalize strOf h.mem = t2 at *
              subst e0
              go_wp2_with fail
              refine (H2.out.go HD.out.1).mono ?_
              rintro en Vn ⟨rfl, hbel⟩
              replace HD := Lib.hid (HD.out.next hbel)
              clear hbel s0 s1 s2 s3 s4 s5 s6 s7 s8 s9 s10 s11 hbb hca hcb
              obtain ⟨⟨s0, s1, s2, s3, s4, s5, s6, s7, s8, s9, s10, s11, -⟩, hbb⟩ := HCELL.out _ HD.out
              rename World => V
              go_wp2_with fail
              refine (H3.out.go HD.out.1).mono ?_
              rintro en Vn ⟨rfl, hbel⟩
              replace HD := Lib.hid (HD.out.next hbel)
              clear hbel s0 s1 s2 s3 s4 s5 s6 s7 s8 s9 s10 s11 hbb
              obtain ⟨⟨s0, s1, s2, s3, s4, s5, s6, s7, s8, s9, s10, s11, -⟩, hbb⟩ := HCELL.out _ HD.out
              rename World => V
              go_wp2_with fail
              refine (H4.out.go HD.out.1).mono ?_
              rintro en Vn ⟨rfl, hbel⟩
              replace HD := Lib.hid (HD.out.next hbel)
              clear hbel s0 s1 s2 s3 s4 s5 s6 s7 s8 s9 s10 s11 hbb
              obtain ⟨⟨s0, s1, s2, s3, s4, s5, s6, s7, s8, s9, s10, s11, -⟩, hbb⟩ := HCELL.out _ HD.out
              rename World => V
              go_wp2_with fail
              refine (H5.out.go HD.out.1).mono ?_
              rintro en Vn ⟨rfl, hbel⟩
              replace HD := Lib.hid (HD.out.next hbel)
              clear hbel s0 s1 s2 s3 s4 s5 s6 s7 s8 s9 s10 s11 hbb
              obtain ⟨⟨s0, s1, s2, s3, s4, s5, s6, s7, s8, s9, s10, s11, -⟩, hbb⟩ := HCELL.out _ HD.out
              rename World => V
              go_wp2
              go_ret
              exact ⟨rfl, HD.out.1⟩
            | true =>
              have hr := HSB.out
              rw [d0, d1, d2, d3, d4, d5] at hr
              obtain rfl : r = true := by rw [hr]; first | rfl | simp
              have H2 := Lib.hid (HI.out true d2)
              have H3 := Lib.hid (HN.out true d3)
              have H4 := Lib.hid (HE.out true d4)
              have H5 := Lib.hid (HT.out true d5)
              have e0 : strOf g.mem = strOf h.mem := HEQ.out.2 (of_decide_eq_true d0)
              have e1 : (g.cap == h.cap) = true := by rw [← d1]; rfl
              clear hr HSB HEQ HEL d0 d1 d2 d3 d4 d5
              as_aux_lemma =>
              obtain ⟨⟨s0, s1, s2, s3, s4, s5, s6, s7, s8, s9, s10, s11, -⟩, hbb⟩ := HCELL.out _ HD.out
              have hca := HCA.out _ ⟨hbb, hbb⟩
              have hcb := HCB.out _ ⟨hbb, hbb⟩
              generalize strOf g.mem = t1 at *
              generalize strOf h.mem = t2 at *
              subst e0
              go_wp2_with fail
              refine (H2.out.go HD.out.1).mono ?_
              rintro en Vn ⟨rfl, hbel⟩
              replace HD := Lib.hid (HD.out.next hbel)
              clear hbel s0 s1 s2 s3 s4 s5 s6 s7 s8 s9 s10 s11 hbb hca hcb
              obtain ⟨⟨s0, s1, s2, s3, s4, s5, s6, s7, s8, s9, s10, s11, -⟩, hbb⟩ := HCELL.out _ HD.out
              rename World => V
              go_wp2_with fail
              refine (H3.out.go HD.out.1).mono ?_
              rintro en Vn ⟨rfl, hbel⟩
              replace HD := Lib.hid (HD.out.next hbel)
              clear hbel s0 s1 s2 s3 s4 s5 s6 s7 s8 s9 s10 s11 hbb
              obtain ⟨⟨s0, s1, s2, s3, s4, s5, s6, s7, s8, s9, s10, s11, -⟩, hbb⟩ := HCELL.out _ HD.out
              rename World => V
              go_wp2_with fail
              refine (H4.out.go HD.out.1).mono ?_
              rintro en Vn ⟨rfl, hbel⟩
              replace HD := Lib.hid (HD.out.next hbel)
              clear hbel s0 s1 s2 s3 s4 s5 s6 s7 s8 s9 s10 s11 hbb
              obtain ⟨⟨s0, s1, s2, s3, s4, s5, s6, s7, s8, s9, s10, s11, -⟩, hbb⟩ := HCELL.out _ HD.out
              rename World => V
              go_wp2_with fail
              refine (H5.out.go HD.out.1).mono ?_
              rintro en Vn ⟨rfl, hbel⟩
              replace HD := Lib.hid (HD.out.next hbel)
              clear hbel s0 s1 s2 s3 s4 s5 s6 s7 s8 s9 s10 s11 hbb
              obtain ⟨⟨s0, s1, s2, s3, s4, s5, s6, s7, s8, s9, s10, s11, -⟩, hbb⟩ := HCELL.out _ HD.out
              rename World => V
              go_wp2
              go_ret
              exact ⟨rfl, HD.out.1⟩
end Go.Proofs.Ytdcolpmmojiffaa.Sto
