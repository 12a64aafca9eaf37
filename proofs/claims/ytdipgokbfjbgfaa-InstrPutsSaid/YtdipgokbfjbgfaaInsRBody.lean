/-
  InsRBody: trammelref06.Body: what it answers is bodyRes. Condition: the slice leads to bytes, at most 10,000,000.
-/
import Derived.Test.YtdipgokbfjbgfaaInsOne
import Derived.Test.YtdipgokbfjbgfaaInsLs
import Derived.Test.YtdipgokbfjbgfaaInsTop
namespace Go.Proofs.Ytdipgokbfjbgfaa.Ins
open Go.RowKit Leb Typ

/-- The blocks that are open, as the reference keeps them: a text, the innermost last. -/
def opC (st : List Nat) : List UInt8 := st.reverse.map fun x => UInt8.ofNat (48 + x)
def opS (st : List Nat) : ByteArray := ⟨(opC st).toArray⟩
theorem opS_size (st : List Nat) : (opS st).size = st.length := by simp [opS, opC, ByteArray.size]
theorem opC_cons (x : Nat) (st : List Nat) : opC (x :: st) = opC st ++ [UInt8.ofNat (48 + x)] := by simp [opC]
theorem opS_push (x : Nat) (st : List Nat) : opS st ++ ⟨#[UInt8.ofNat (48 + x)]⟩ = opS (x :: st) := by
  unfold opS
  rw [opC_cons]
  apply ByteArray.ext
  rw [ByteArray.data_append]
  simp
theorem opS_pop (x : Nat) (st : List Nat) : (opS (x :: st)).extract 0 st.length = opS st := by
  unfold opS
  rw [opC_cons]
  apply ByteArray.ext
  rw [ByteArray.data_extract]
  have : (opC st).length = st.length := by simp [opC]
  simp [this]
theorem opS_last (x : Nat) (st : List Nat) (hx : x < 6) (W : World) : (Instr.index 9 (.string (opS (x :: st))) (.int .i64 (st.length : Int))).run Try.prog W = .ok (.int .u8 ((48 + x : Nat) : Int)) W := by
  have hl : st.length < (opC (x :: st)).length := by simp [opC]
  have h := str_index Try.underlying9 (opC (x :: st)) st.length hl W
  have e : (opC (x :: st))[st.length].toNat = 48 + x := by
    have e2 : (opC (x :: st))[st.length] = UInt8.ofNat (48 + x) := by
      have h3 : (opC (x :: st))[st.length]? = some (UInt8.ofNat (48 + x)) := by
        rw [opC_cons, List.getElem?_append_right (by simp [opC])]
        simp [opC]
      rw [List.getElem?_eq_getElem hl] at h3
      injection h3
    rw [e2]
    simp
    omega
  rw [e] at h
  exact h
theorem opS_cut (x : Nat) (st : List Nat) (W : World) : (Instr.slice 9 (.string (opS (x :: st))) none (some (.int .i64 (st.length : Int))) none).run Try.prog W = .ok (.string (opS st)) W := by
  rw [run_slice_string_h W 9 (opS (x :: st)) Try.underlying9 .i64 (st.length : Int) (by omega) (by rw [opS_size]; simp only [List.length_cons]; omega)]
  rw [Int.toNat_natCast, opS_pop]
theorem opS_cat (y : Nat) (st : List Nat) (h : st.length ≤ 64) (s : ByteArray) (hs : s = ⟨#[UInt8.ofNat (48 + y)]⟩) (W : World) : (Op.stringOp .add (opS st) s).run Try.prog W = .ok (.string (opS (y :: st))) W := by
  subst hs
  rw [run_string_add W _ _ (by rw [opS_size]; omega) (by simp [ByteArray.size]), opS_push]
theorem rj_err (bs : List Nat) (xs : List Ins) (f n p e : Nat) (st : List Nat) (x : Ins) (q : Nat) (h : oneRes bs p = (x, q, e)) (he : e ≠ 0) : joinB xs (bodyF bs (f + 1) n st p) = ([], 0, e) := by
  have h1 : (oneRes bs p).2.2 = e := by rw [h]
  have h2 : bodyF bs (f + 1) n st p = ([], 0, e) := by simp only [bodyF]; rw [if_pos (by rw [h1]; exact he), h1]
  rw [h2]; simp [joinB, he]
theorem rj_long (bs : List Nat) (xs : List Ins) (f p : Nat) (st : List Nat) (x : Ins) (q : Nat) (h : oneRes bs p = (x, q, 0)) : joinB xs (bodyF bs (f + 1) 2000 st p) = ([], 0, 4) := by
  simp only [bodyF]
  rw [h]
  simp [joinB]
theorem rj_bad (bs : List Nat) (xs : List Ins) (f n p e : Nat) (st : List Nat) (x : Ins) (q : Nat) (hn : n < 2000) (h : oneRes bs p = (x, q, 0)) (hb : blocks x.op st = (e, none)) (he : e ≠ 0) : joinB xs (bodyF bs (f + 1) n st p) = ([], 0, e) := by
  rw [bodyF_step bs f n p q st x h hn, hb]
  simp [joinB, he]
theorem rj_end (bs : List Nat) (xs : List Ins) (f n p : Nat) (st : List Nat) (x : Ins) (q : Nat) (hn : n < 2000) (h : oneRes bs p = (x, q, 0)) (hb : blocks x.op st = (0, none)) : joinB xs (bodyF bs (f + 1) n st p) = (xs ++ [x], q, 0) := by
  rw [bodyF_step bs f n p q st x h hn, hb]
  simp [joinB]
theorem rj_next (bs : List Nat) (xs : List Ins) (f n p e : Nat) (st st' : List Nat) (x : Ins) (q : Nat) (hn : n < 2000) (h : oneRes bs p = (x, q, 0)) (hb : blocks x.op st = (e, some st')) : joinB xs (bodyF bs (f + 1) n st p) = joinB (xs ++ [x]) (bodyF bs f (n + 1) st' q) := by
  rw [bodyF_step bs f n p q st x h hn, hb]
  simp only
  generalize bodyF bs f (n + 1) st' q = r
  obtain ⟨ys, s, e'⟩ := r
  by_cases he : e' = 0
  · subst he; simp [joinB]
  · simp [joinB, he]
set_option maxHeartbeats 8000000 in
set_option maxRecDepth 100000 in
theorem rbody_any (A : Option Addr) (l : List Nat) (c : Nat) (w : World) (hb : Bytes w w.heap.size A l) (hlc : l.length ≤ c) (hl : l.length ≤ 10000000) : Calls Try.prog 38 #[.slice A l.length c] w (Body3 w (bodyRes l)) := by
  have HONE0 := Lib.hid (fun (p : Nat) (W : World) (hW : Below w.heap.size w W) => roneW_any A l c p W ((hb.below hW).more hW.size) hlc hl)
  have HL := Lib.hid hl
  have HR : Hid (joinB [] (bodyF l (l.length + 1) 0 [] 0) = bodyRes l) := Lib.hid (joinB_nil _ _ _ _ _)
  generalize bodyRes l = R at *
  clear hb hl hlc
  go_enter Try.func38, Try.ntmps38
  go_wp2_with fail
  go_loopw [5, 6, 7] (fun x5 x6 x7 wr => ∃ (p n : Nat) (st : List Nat) (Ao : Option Addr) (co : Nat) (es : List Ent), x5 = .slice Ao n co ∧ x6 = .string (opS st) ∧ x7 = .int .i64 (p : Int) ∧ LS w wr (.slice Ao n co) es ∧ Hid (p ≤ l.length ∧ n ≤ 2000 ∧ st.length ≤ 64 ∧ es.length = n ∧ (∀ y ∈ st, y < 6) ∧ ∃ f, l.length - p < f ∧ joinB (es.map fun e : Ent => e.1) (bodyF l f n st p) = R)) (fun _ _ x7 _ => l.length + 1 - (intOf x7).toNat)
  case atStart => exact ⟨0, 0, [], none, 0, [], rfl, rfl, by go_num, ls_nil w, Lib.hid ⟨Nat.zero_le _, by omega, by simp, rfl, by simp, _, by omega, HR.out⟩⟩
  case round =>
    obtain ⟨p, n, st, Ao, co, es, rfl, rfl, rfl, hls, HI⟩ := hrel
    clear HR
    obtain ⟨h1, h2, h3, h4, h5, f, hf, hj⟩ := HI.out
    obtain ⟨f, rfl⟩ : ∃ f', f = f' + 1 := ⟨f - 1, by omega⟩
    have hLL := HL.out
    have hone := HONE0.out p
    generalize hg : oneRes l p = g at *
    obtain ⟨x, q, e⟩ := g
    have HONE := Lib.hid hone
    have HLS := Lib.hid hls
    clear hone HI hls HONE0
    by_cases he : e = 0
    · subst he
      have hq := oneRes_le hg
      have HQ := Lib.hid (And.intro hq (And.intro hf (And.intro h1 hLL)))
      have HG := Lib.hid hg
      have HJ := Lib.hid hj
      have H5 := Lib.hid h5
      have H4 := Lib.hid h4
      obtain ⟨op, xa, xb, xk, xl⟩ := x
      clear hg hj h5 h4 hq hf h1 hLL
      by_cases hn : n = 2000
      · subst hn
        have HE : Hid (R = ([], 0, 4)) := Lib.hid (by rw [← HJ.out]; exact rj_long l _ f p st _ q HG.out)
        go_wp2_with fail
        refine (HONE.out _ HLS.out.below).mono ?_
        rintro en w3 ⟨LA, lc, ln, hln, rfl, hown3, hb3⟩
        have HLN := Lib.hid hln
        have HBL := Lib.hid ((HLS.out.keep hb3).below)
        clear hln hown3 hb3 HONE HLN
        go_wp2
        go_ret3
        rw [HE.out]
        exact ⟨none, 0, rfl, ⟨Inss.nil _ _ _, fun _ => rfl, Nat.le_refl _⟩, HBL.out.alloc HBL.out.size _⟩
      have hn2 : ((n : Int) == 2000) = false := by simp; omega
      have HN : Hid (n < 2000) := Lib.hid (by omega)
      clear hn h2
      by_cases c2 : op = 2
      · subst c2
        by_cases h64 : st.length = 64
        · have HE : Hid (R = ([], 0, 4)) := Lib.hid (by rw [← HJ.out]; exact rj_bad l _ f n p 4 st _ q HN.out HG.out (by unfold blocks; rw [if_pos (by simp), if_pos h64]) (by omega))
          have hsz : ((opS st).size : Int) = 64 := by rw [opS_size, h64]; rfl
          go_wp2_with fail
          refine (HONE.out _ HLS.out.below).mono ?_
          rintro en w3 ⟨LA, lc, ln, hln, rfl, hown3, hb3⟩
          have HLN := Lib.hid hln
          have HBL := Lib.hid ((HLS.out.keep hb3).below)
          clear hln hown3 hb3 HONE HLN
          go_wp2
          go_ret3
          rw [HE.out]
          exact ⟨none, 0, rfl, ⟨Inss.nil _ _ _, fun _ => rfl, Nat.le_refl _⟩, HBL.out.alloc HBL.out.size _⟩
        · have HE : Hid (joinB ((es.map fun e : Ent => e.1) ++ [⟨2, xa, xb, xk, xl⟩]) (bodyF l f (n + 1) (2 :: st) q) = R) := Lib.hid (by rw [← HJ.out]; exact (rj_next l _ f n p 0 st (2 :: st) _ q HN.out HG.out (by unfold blocks; rw [if_pos (by simp), if_neg h64]; rfl)).symm)
          have hsz : (((opS st).size : Int) == 64) = false := by rw [opS_size]; simp; omega
          have hcat := fun W => opS_cat 2 st h3 (Utf8.encode 50) (by rfl) W
          go_wp2_with fail
          refine (HONE.out _ HLS.out.below).mono ?_
          rintro en w3 ⟨LA, lc, ln, hln, rfl, hown3, hb3⟩
          have HLN := Lib.hid hln
          have hsl : slV ((⟨2, xa, xb, xk, xl⟩ : Ins), LA, lc) = .slice LA ln lc := by unfold slV; rw [HLN.out]
          have hb5 : Below wr.heap.size wr ((w3.alloc (.cells #[.int .i64 2, .int .i64 xa, .int .i64 xb, .int .i64 xk, .slice LA ln lc] 25)).alloc (.cells #[.int .i64 2, .int .i64 xa, .int .i64 xb, .int .i64 xk, .slice LA ln lc] 25)) := (hb3.alloc hb3.size _).alloc (by have := hb3.size; simp; omega) _
          have HL5 := Lib.hid (HLS.out.keep hb5)
          have hown5 : OwnI ((w3.alloc (.cells #[.int .i64 2, .int .i64 xa, .int .i64 xb, .int .i64 xk, .slice LA ln lc] 25)).alloc (.cells #[.int .i64 2, .int .i64 xa, .int .i64 xb, .int .i64 xk, .slice LA ln lc] 25)) wr.heap.size (.slice LA ln lc) xl := (hown3.alloc _).alloc _
          have HEV : Hid (OwnI ((w3.alloc (.cells #[.int .i64 2, .int .i64 xa, .int .i64 xb, .int .i64 xk, .slice LA ln lc] 25)).alloc (.cells #[.int .i64 2, .int .i64 xa, .int .i64 xb, .int .i64 xk, .slice LA ln lc] 25)) w.heap.size (slV ((⟨2, xa, xb, xk, xl⟩ : Ins), LA, lc)) xl ∧ Apart (slV ((⟨2, xa, xb, xk, xl⟩ : Ins), LA, lc)) (.slice Ao n co)) := Lib.hid (by
            rw [hsl]
            exact ⟨rowFrom hown5 HLS.out.below.size, (apart_new HLS.out.own fun b e => (World.ownsRow.lt hown5 b e).1).2⟩)
          have hrow := rowE_lit (w3.alloc (.cells #[.int .i64 2, .int .i64 xa, .int .i64 xb, .int .i64 xk, .slice LA ln lc] 25)) [((⟨2, xa, xb, xk, xl⟩ : Ins), LA, lc)] #[.int .i64 2, .int .i64 xa, .int .i64 xb, .int .i64 xk, .slice LA ln lc] 1 (by simp [els, el, HLN.out]) rfl (by simp [maxLen])
          have HROW : Hid (RowE ((w3.alloc (.cells #[.int .i64 2, .int .i64 xa, .int .i64 xb, .int .i64 xk, .slice LA ln lc] 25)).alloc (.cells #[.int .i64 2, .int .i64 xa, .int .i64 xb, .int .i64 xk, .slice LA ln lc] 25)) (w3.heap.size + 1 + 1) (some ⟨w3.heap.size + 1, 0, none⟩) [((⟨2, xa, xb, xk, xl⟩ : Ins), LA, lc)]) := Lib.hid (by simpa using hrow)
          have HES : Hid ((es ++ [((⟨2, xa, xb, xk, xl⟩ : Ins), LA, lc)]).length = n + 1) := Lib.hid (by rw [List.length_append, H4.out]; rfl)
          have hn1 : n + 1 ≤ 1000000 := by have := HN.out; omega
          have hbas := HL5.out.below.size
          clear hsl hb5 hown5 hrow hln hown3 hb3 HONE HLN
          go_wp2_with (at_builtin; refine app_insG rfl (.tmp 84) (.tmp 86) rfl w.heap.size _ es rfl HL5.out.own (w3.heap.size + 1) 0 [((⟨2, xa, xb, xk, xl⟩ : Ins), LA, lc)] 1 1 _ (n + 1) rfl rfl HROW.out HES.out hn1 hbas ?_; intro A6 c6 w6 hown6 hg6 hob6)
          have hls6 := HL5.out.more HEV.out.1 HEV.out.2 hown6 hg6 hob6
          clear hown6 hg6 hob6 hbas hn1
          have hm : q ≤ l.length ∧ n + 1 ≤ 2000 ∧ l.length - q < f ∧ l.length + 1 - q < l.length + 1 - p := by have := HQ.out; have := HN.out; omega
          go_roundw
          case rel => exact ⟨q, n + 1, 2 :: st, A6, c6, _, rfl, rfl, rfl, hls6, Lib.hid ⟨hm.1, hm.2.1, by simp only [List.length_cons]; omega, HES.out, (fun y hy => (List.mem_cons.1 hy).elim (fun e => by omega) (H5.out y)), f, hm.2.2.1, by rw [List.map_append]; exact HE.out⟩⟩
          case measure => simpa [intOf] using hm.2.2.2
      by_cases c3 : op = 3
      · subst c3
        by_cases h64 : st.length = 64
        · have HE : Hid (R = ([], 0, 4)) := Lib.hid (by rw [← HJ.out]; exact rj_bad l _ f n p 4 st _ q HN.out HG.out (by unfold blocks; rw [if_pos (by simp), if_pos h64]) (by omega))
          have hsz : ((opS st).size : Int) = 64 := by rw [opS_size, h64]; rfl
          go_wp2_with fail
          refine (HONE.out _ HLS.out.below).mono ?_
          rintro en w3 ⟨LA, lc, ln, hln, rfl, hown3, hb3⟩
          have HLN := Lib.hid hln
          have HBL := Lib.hid ((HLS.out.keep hb3).below)
          clear hln hown3 hb3 HONE HLN
          go_wp2
          go_ret3
          rw [HE.out]
          exact ⟨none, 0, rfl, ⟨Inss.nil _ _ _, fun _ => rfl, Nat.le_refl _⟩, HBL.out.alloc HBL.out.size _⟩
        · have HE : Hid (joinB ((es.map fun e : Ent => e.1) ++ [⟨3, xa, xb, xk, xl⟩]) (bodyF l f (n + 1) (3 :: st) q) = R) := Lib.hid (by rw [← HJ.out]; exact (rj_next l _ f n p 0 st (3 :: st) _ q HN.out HG.out (by unfold blocks; rw [if_pos (by simp), if_neg h64]; rfl)).symm)
          have hsz : (((opS st).size : Int) == 64) = false := by rw [opS_size]; simp; omega
          have hcat := fun W => opS_cat 3 st h3 (Utf8.encode 51) (by rfl) W
          go_wp2_with fail
          refine (HONE.out _ HLS.out.below).mono ?_
          rintro en w3 ⟨LA, lc, ln, hln, rfl, hown3, hb3⟩
          have HLN := Lib.hid hln
          have hsl : slV ((⟨3, xa, xb, xk, xl⟩ : Ins), LA, lc) = .slice LA ln lc := by unfold slV; rw [HLN.out]
          have hb5 : Below wr.heap.size wr ((w3.alloc (.cells #[.int .i64 3, .int .i64 xa, .int .i64 xb, .int .i64 xk, .slice LA ln lc] 25)).alloc (.cells #[.int .i64 3, .int .i64 xa, .int .i64 xb, .int .i64 xk, .slice LA ln lc] 25)) := (hb3.alloc hb3.size _).alloc (by have := hb3.size; simp; omega) _
          have HL5 := Lib.hid (HLS.out.keep hb5)
          have hown5 : OwnI ((w3.alloc (.cells #[.int .i64 3, .int .i64 xa, .int .i64 xb, .int .i64 xk, .slice LA ln lc] 25)).alloc (.cells #[.int .i64 3, .int .i64 xa, .int .i64 xb, .int .i64 xk, .slice LA ln lc] 25)) wr.heap.size (.slice LA ln lc) xl := (hown3.alloc _).alloc _
          have HEV : Hid (OwnI ((w3.alloc (.cells #[.int .i64 3, .int .i64 xa, .int .i64 xb, .int .i64 xk, .slice LA ln lc] 25)).alloc (.cells #[.int .i64 3, .int .i64 xa, .int .i64 xb, .int .i64 xk, .slice LA ln lc] 25)) w.heap.size (slV ((⟨3, xa, xb, xk, xl⟩ : Ins), LA, lc)) xl ∧ Apart (slV ((⟨3, xa, xb, xk, xl⟩ : Ins), LA, lc)) (.slice Ao n co)) := Lib.hid (by
            rw [hsl]
            exact ⟨rowFrom hown5 HLS.out.below.size, (apart_new HLS.out.own fun b e => (World.ownsRow.lt hown5 b e).1).2⟩)
          have hrow := rowE_lit (w3.alloc (.cells #[.int .i64 3, .int .i64 xa, .int .i64 xb, .int .i64 xk, .slice LA ln lc] 25)) [((⟨3, xa, xb, xk, xl⟩ : Ins), LA, lc)] #[.int .i64 3, .int .i64 xa, .int .i64 xb, .int .i64 xk, .slice LA ln lc] 1 (by simp [els, el, HLN.out]) rfl (by simp [maxLen])
          have HROW : Hid (RowE ((w3.alloc (.cells #[.int .i64 3, .int .i64 xa, .int .i64 xb, .int .i64 xk, .slice LA ln lc] 25)).alloc (.cells #[.int .i64 3, .int .i64 xa, .int .i64 xb, .int .i64 xk, .slice LA ln lc] 25)) (w3.heap.size + 1 + 1) (some ⟨w3.heap.size + 1, 0, none⟩) [((⟨3, xa, xb, xk, xl⟩ : Ins), LA, lc)]) := Lib.hid (by simpa using hrow)
          have HES : Hid ((es ++ [((⟨3, xa, xb, xk, xl⟩ : Ins), LA, lc)]).length = n + 1) := Lib.hid (by rw [List.length_append, H4.out]; rfl)
          have hn1 : n + 1 ≤ 1000000 := by have := HN.out; omega
          have hbas := HL5.out.below.size
          clear hsl hb5 hown5 hrow hln hown3 hb3 HONE HLN
          go_wp2_with (at_builtin; refine app_insG rfl (.tmp 84) (.tmp 86) rfl w.heap.size _ es rfl HL5.out.own (w3.heap.size + 1) 0 [((⟨3, xa, xb, xk, xl⟩ : Ins), LA, lc)] 1 1 _ (n + 1) rfl rfl HROW.out HES.out hn1 hbas ?_; intro A6 c6 w6 hown6 hg6 hob6)
          have hls6 := HL5.out.more HEV.out.1 HEV.out.2 hown6 hg6 hob6
          clear hown6 hg6 hob6 hbas hn1
          have hm : q ≤ l.length ∧ n + 1 ≤ 2000 ∧ l.length - q < f ∧ l.length + 1 - q < l.length + 1 - p := by have := HQ.out; have := HN.out; omega
          go_roundw
          case rel => exact ⟨q, n + 1, 3 :: st, A6, c6, _, rfl, rfl, rfl, hls6, Lib.hid ⟨hm.1, hm.2.1, by simp only [List.length_cons]; omega, HES.out, (fun y hy => (List.mem_cons.1 hy).elim (fun e => by omega) (H5.out y)), f, hm.2.2.1, by rw [List.map_append]; exact HE.out⟩⟩
          case measure => simpa [intOf] using hm.2.2.2
      by_cases c4 : op = 4
      · subst c4
        by_cases h64 : st.length = 64
        · have HE : Hid (R = ([], 0, 4)) := Lib.hid (by rw [← HJ.out]; exact rj_bad l _ f n p 4 st _ q HN.out HG.out (by unfold blocks; rw [if_pos (by simp), if_pos h64]) (by omega))
          have hsz : ((opS st).size : Int) = 64 := by rw [opS_size, h64]; rfl
          go_wp2_with fail
          refine (HONE.out _ HLS.out.below).mono ?_
          rintro en w3 ⟨LA, lc, ln, hln, rfl, hown3, hb3⟩
          have HLN := Lib.hid hln
          have HBL := Lib.hid ((HLS.out.keep hb3).below)
          clear hln hown3 hb3 HONE HLN
          go_wp2
          go_ret3
          rw [HE.out]
          exact ⟨none, 0, rfl, ⟨Inss.nil _ _ _, fun _ => rfl, Nat.le_refl _⟩, HBL.out.alloc HBL.out.size _⟩
        · have HE : Hid (joinB ((es.map fun e : Ent => e.1) ++ [⟨4, xa, xb, xk, xl⟩]) (bodyF l f (n + 1) (4 :: st) q) = R) := Lib.hid (by rw [← HJ.out]; exact (rj_next l _ f n p 0 st (4 :: st) _ q HN.out HG.out (by unfold blocks; rw [if_pos (by simp), if_neg h64]; rfl)).symm)
          have hsz : (((opS st).size : Int) == 64) = false := by rw [opS_size]; simp; omega
          have hcat := fun W => opS_cat 4 st h3 (Utf8.encode 52) (by rfl) W
          go_wp2_with fail
          refine (HONE.out _ HLS.out.below).mono ?_
          rintro en w3 ⟨LA, lc, ln, hln, rfl, hown3, hb3⟩
          have HLN := Lib.hid hln
          have hsl : slV ((⟨4, xa, xb, xk, xl⟩ : Ins), LA, lc) = .slice LA ln lc := by unfold slV; rw [HLN.out]
          have hb5 : Below wr.heap.size wr ((w3.alloc (.cells #[.int .i64 4, .int .i64 xa, .int .i64 xb, .int .i64 xk, .slice LA ln lc] 25)).alloc (.cells #[.int .i64 4, .int .i64 xa, .int .i64 xb, .int .i64 xk, .slice LA ln lc] 25)) := (hb3.alloc hb3.size _).alloc (by have := hb3.size; simp; omega) _
          have HL5 := Lib.hid (HLS.out.keep hb5)
          have hown5 : OwnI ((w3.alloc (.cells #[.int .i64 4, .int .i64 xa, .int .i64 xb, .int .i64 xk, .slice LA ln lc] 25)).alloc (.cells #[.int .i64 4, .int .i64 xa, .int .i64 xb, .int .i64 xk, .slice LA ln lc] 25)) wr.heap.size (.slice LA ln lc) xl := (hown3.alloc _).alloc _
          have HEV : Hid (OwnI ((w3.alloc (.cells #[.int .i64 4, .int .i64 xa, .int .i64 xb, .int .i64 xk, .slice LA ln lc] 25)).alloc (.cells #[.int .i64 4, .int .i64 xa, .int .i64 xb, .int .i64 xk, .slice LA ln lc] 25)) w.heap.size (slV ((⟨4, xa, xb, xk, xl⟩ : Ins), LA, lc)) xl ∧ Apart (slV ((⟨4, xa, xb, xk, xl⟩ : Ins), LA, lc)) (.slice Ao n co)) := Lib.hid (by
            rw [hsl]
            exact ⟨rowFrom hown5 HLS.out.below.size, (apart_new HLS.out.own fun b e => (World.ownsRow.lt hown5 b e).1).2⟩)
          have hrow := rowE_lit (w3.alloc (.cells #[.int .i64 4, .int .i64 xa, .int .i64 xb, .int .i64 xk, .slice LA ln lc] 25)) [((⟨4, xa, xb, xk, xl⟩ : Ins), LA, lc)] #[.int .i64 4, .int .i64 xa, .int .i64 xb, .int .i64 xk, .slice LA ln lc] 1 (by simp [els, el, HLN.out]) rfl (by simp [maxLen])
          have HROW : Hid (RowE ((w3.alloc (.cells #[.int .i64 4, .int .i64 xa, .int .i64 xb, .int .i64 xk, .slice LA ln lc] 25)).alloc (.cells #[.int .i64 4, .int .i64 xa, .int .i64 xb, .int .i64 xk, .slice LA ln lc] 25)) (w3.heap.size + 1 + 1) (some ⟨w3.heap.size + 1, 0, none⟩) [((⟨4, xa, xb, xk, xl⟩ : Ins), LA, lc)]) := Lib.hid (by simpa using hrow)
          have HES : Hid ((es ++ [((⟨4, xa, xb, xk, xl⟩ : Ins), LA, lc)]).length = n + 1) := Lib.hid (by rw [List.length_append, H4.out]; rfl)
          have hn1 : n + 1 ≤ 1000000 := by have := HN.out; omega
          have hbas := HL5.out.below.size
          clear hsl hb5 hown5 hrow hln hown3 hb3 HONE HLN
          go_wp2_with (at_builtin; refine app_insG rfl (.tmp 84) (.tmp 86) rfl w.heap.size _ es rfl HL5.out.own (w3.heap.size + 1) 0 [((⟨4, xa, xb, xk, xl⟩ : Ins), LA, lc)] 1 1 _ (n + 1) rfl rfl HROW.out HES.out hn1 hbas ?_; intro A6 c6 w6 hown6 hg6 hob6)
          have hls6 := HL5.out.more HEV.out.1 HEV.out.2 hown6 hg6 hob6
          clear hown6 hg6 hob6 hbas hn1
          have hm : q ≤ l.length ∧ n + 1 ≤ 2000 ∧ l.length - q < f ∧ l.length + 1 - q < l.length + 1 - p := by have := HQ.out; have := HN.out; omega
          go_roundw
          case rel => exact ⟨q, n + 1, 4 :: st, A6, c6, _, rfl, rfl, rfl, hls6, Lib.hid ⟨hm.1, hm.2.1, by simp only [List.length_cons]; omega, HES.out, (fun y hy => (List.mem_cons.1 hy).elim (fun e => by omega) (H5.out y)), f, hm.2.2.1, by rw [List.map_append]; exact HE.out⟩⟩
          case measure => simpa [intOf] using hm.2.2.2
      by_cases c5 : op = 5
      · subst c5
        cases st with
        | nil =>
          have HE : Hid (R = ([], 0, 2)) := Lib.hid (by rw [← HJ.out]; exact rj_bad l _ f n p 2 [] _ q HN.out HG.out (by unfold blocks; rw [if_neg (by simp), if_pos rfl]; rfl) (by omega))
          have hsz : (((opS []).size : Int) == 0) = true := by decide
          go_wp2_with fail
          refine (HONE.out _ HLS.out.below).mono ?_
          rintro en w3 ⟨LA, lc, ln, hln, rfl, hown3, hb3⟩
          have HLN := Lib.hid hln
          have HBL := Lib.hid ((HLS.out.keep hb3).below)
          clear hln hown3 hb3 HONE HLN
          go_wp2
          go_ret3
          rw [HE.out]
          exact ⟨none, 0, rfl, ⟨Inss.nil _ _ _, fun _ => rfl, Nat.le_refl _⟩, HBL.out.alloc HBL.out.size _⟩
        | cons z st =>
          have hs0 : (((opS (z :: st)).size : Int) == 0) = false := by rw [opS_size]; simp; omega
          have hs1 : 0 < (opS (z :: st)).size := by rw [opS_size]; simp
          have hw : wrap64 (((opS (z :: st)).size : Int) - 1) = (st.length : Int) := by rw [opS_size, List.length_cons, IntWalk.wrap64_in _ (by simp only [List.length_cons] at h3; omega)]; omega
          have hz6 := H5.out z (by simp)
          have hix := fun W => opS_last z st hz6 W
          by_cases hz4 : z = 4
          · subst hz4
            have HE : Hid (joinB ((es.map fun e : Ent => e.1) ++ [⟨5, xa, xb, xk, xl⟩]) (bodyF l f (n + 1) (5 :: st) q) = R) := Lib.hid (by rw [← HJ.out]; exact (rj_next l _ f n p 0 (4 :: st) (5 :: st) _ q HN.out HG.out (by unfold blocks; rw [if_neg (by simp), if_pos rfl]; rfl)).symm)
            have hsl1 := fun W => opS_cut 4 st W
            have hcat := fun W => opS_cat 5 st (by simp only [List.length_cons] at h3; omega) ⟨#[53]⟩ (by rfl) W
            have hlen5 : (5 :: st).length ≤ 64 := h3
            clear hz6
            go_wp2_with fail
            refine (HONE.out _ HLS.out.below).mono ?_
            rintro en w3 ⟨LA, lc, ln, hln, rfl, hown3, hb3⟩
            have HLN := Lib.hid hln
            have hsl : slV ((⟨5, xa, xb, xk, xl⟩ : Ins), LA, lc) = .slice LA ln lc := by unfold slV; rw [HLN.out]
            have hb5 : Below wr.heap.size wr ((w3.alloc (.cells #[.int .i64 5, .int .i64 xa, .int .i64 xb, .int .i64 xk, .slice LA ln lc] 25)).alloc (.cells #[.int .i64 5, .int .i64 xa, .int .i64 xb, .int .i64 xk, .slice LA ln lc] 25)) := (hb3.alloc hb3.size _).alloc (by have := hb3.size; simp; omega) _
            have HL5 := Lib.hid (HLS.out.keep hb5)
            have hown5 : OwnI ((w3.alloc (.cells #[.int .i64 5, .int .i64 xa, .int .i64 xb, .int .i64 xk, .slice LA ln lc] 25)).alloc (.cells #[.int .i64 5, .int .i64 xa, .int .i64 xb, .int .i64 xk, .slice LA ln lc] 25)) wr.heap.size (.slice LA ln lc) xl := (hown3.alloc _).alloc _
            have HEV : Hid (OwnI ((w3.alloc (.cells #[.int .i64 5, .int .i64 xa, .int .i64 xb, .int .i64 xk, .slice LA ln lc] 25)).alloc (.cells #[.int .i64 5, .int .i64 xa, .int .i64 xb, .int .i64 xk, .slice LA ln lc] 25)) w.heap.size (slV ((⟨5, xa, xb, xk, xl⟩ : Ins), LA, lc)) xl ∧ Apart (slV ((⟨5, xa, xb, xk, xl⟩ : Ins), LA, lc)) (.slice Ao n co)) := Lib.hid (by
              rw [hsl]
              exact ⟨rowFrom hown5 HLS.out.below.size, (apart_new HLS.out.own fun b e => (World.ownsRow.lt hown5 b e).1).2⟩)
            have hrow := rowE_lit (w3.alloc (.cells #[.int .i64 5, .int .i64 xa, .int .i64 xb, .int .i64 xk, .slice LA ln lc] 25)) [((⟨5, xa, xb, xk, xl⟩ : Ins), LA, lc)] #[.int .i64 5, .int .i64 xa, .int .i64 xb, .int .i64 xk, .slice LA ln lc] 1 (by simp [els, el, HLN.out]) rfl (by simp [maxLen])
            have HROW : Hid (RowE ((w3.alloc (.cells #[.int .i64 5, .int .i64 xa, .int .i64 xb, .int .i64 xk, .slice LA ln lc] 25)).alloc (.cells #[.int .i64 5, .int .i64 xa, .int .i64 xb, .int .i64 xk, .slice LA ln lc] 25)) (w3.heap.size + 1 + 1) (some ⟨w3.heap.size + 1, 0, none⟩) [((⟨5, xa, xb, xk, xl⟩ : Ins), LA, lc)]) := Lib.hid (by simpa using hrow)
            have HES : Hid ((es ++ [((⟨5, xa, xb, xk, xl⟩ : Ins), LA, lc)]).length = n + 1) := Lib.hid (by rw [List.length_append, H4.out]; rfl)
            have hn1 : n + 1 ≤ 1000000 := by have := HN.out; omega
            have hbas := HL5.out.below.size
            clear hsl hb5 hown5 hrow hln hown3 hb3 HONE HLN
            go_wp2_with (at_builtin; refine app_insG rfl (.tmp 84) (.tmp 86) rfl w.heap.size _ es rfl HL5.out.own (w3.heap.size + 1) 0 [((⟨5, xa, xb, xk, xl⟩ : Ins), LA, lc)] 1 1 _ (n + 1) rfl rfl HROW.out HES.out hn1 hbas ?_; intro A6 c6 w6 hown6 hg6 hob6)
            have hls6 := HL5.out.more HEV.out.1 HEV.out.2 hown6 hg6 hob6
            clear hown6 hg6 hob6 hbas hn1
            have hm : q ≤ l.length ∧ n + 1 ≤ 2000 ∧ l.length - q < f ∧ l.length + 1 - q < l.length + 1 - p := by have := HQ.out; have := HN.out; omega
            go_roundw
            case rel => exact ⟨q, n + 1, 5 :: st, A6, c6, _, rfl, rfl, rfl, hls6, Lib.hid ⟨hm.1, hm.2.1, hlen5, HES.out, (fun y hy => (List.mem_cons.1 hy).elim (fun e => by omega) (fun e => H5.out y (by simp [e]))), f, hm.2.2.1, by rw [List.map_append]; exact HE.out⟩⟩
            case measure => simpa [intOf] using hm.2.2.2
          · have HE : Hid (R = ([], 0, 2)) := Lib.hid (by rw [← HJ.out]; exact rj_bad l _ f n p 2 (z :: st) _ q HN.out HG.out (by unfold blocks; rw [if_neg (by simp), if_pos rfl, if_neg (by simpa using hz4)]) (by omega))
            have hyz : (((48 + z : Nat) : Int) != 52) = true := by simp; omega
            clear hz6 hz4
            generalize 48 + z = yz at *
            go_wp2_with fail
            refine (HONE.out _ HLS.out.below).mono ?_
            rintro en w3 ⟨LA, lc, ln, hln, rfl, hown3, hb3⟩
            have HLN := Lib.hid hln
            have HBL := Lib.hid ((HLS.out.keep hb3).below)
            clear hln hown3 hb3 HONE HLN
            go_wp2
            go_ret3
            rw [HE.out]
            exact ⟨none, 0, rfl, ⟨Inss.nil _ _ _, fun _ => rfl, Nat.le_refl _⟩, HBL.out.alloc HBL.out.size _⟩
      by_cases c11 : op = 11
      · subst c11
        cases st with
        | nil =>
          have HE : Hid (R = ((es.map fun e : Ent => e.1) ++ [⟨11, xa, xb, xk, xl⟩], q, 0)) := Lib.hid (by rw [← HJ.out]; exact rj_end l _ f n p [] _ q HN.out HG.out (by unfold blocks; rw [if_neg (by simp), if_neg (by simp), if_pos rfl, if_pos rfl]))
          have hsz : (opS []).size = 0 := by rfl
          go_wp2_with fail
          refine (HONE.out _ HLS.out.below).mono ?_
          rintro en w3 ⟨LA, lc, ln, hln, rfl, hown3, hb3⟩
          have HLN := Lib.hid hln
          have hsl : slV ((⟨11, xa, xb, xk, xl⟩ : Ins), LA, lc) = .slice LA ln lc := by unfold slV; rw [HLN.out]
          have hb5 : Below wr.heap.size wr ((w3.alloc (.cells #[.int .i64 11, .int .i64 xa, .int .i64 xb, .int .i64 xk, .slice LA ln lc] 25)).alloc (.cells #[.int .i64 11, .int .i64 xa, .int .i64 xb, .int .i64 xk, .slice LA ln lc] 25)) := (hb3.alloc hb3.size _).alloc (by have := hb3.size; simp; omega) _
          have HL5 := Lib.hid (HLS.out.keep hb5)
          have hown5 : OwnI ((w3.alloc (.cells #[.int .i64 11, .int .i64 xa, .int .i64 xb, .int .i64 xk, .slice LA ln lc] 25)).alloc (.cells #[.int .i64 11, .int .i64 xa, .int .i64 xb, .int .i64 xk, .slice LA ln lc] 25)) wr.heap.size (.slice LA ln lc) xl := (hown3.alloc _).alloc _
          have HEV : Hid (OwnI ((w3.alloc (.cells #[.int .i64 11, .int .i64 xa, .int .i64 xb, .int .i64 xk, .slice LA ln lc] 25)).alloc (.cells #[.int .i64 11, .int .i64 xa, .int .i64 xb, .int .i64 xk, .slice LA ln lc] 25)) w.heap.size (slV ((⟨11, xa, xb, xk, xl⟩ : Ins), LA, lc)) xl ∧ Apart (slV ((⟨11, xa, xb, xk, xl⟩ : Ins), LA, lc)) (.slice Ao n co)) := Lib.hid (by
            rw [hsl]
            exact ⟨rowFrom hown5 HLS.out.below.size, (apart_new HLS.out.own fun b e => (World.ownsRow.lt hown5 b e).1).2⟩)
          have hrow := rowE_lit (w3.alloc (.cells #[.int .i64 11, .int .i64 xa, .int .i64 xb, .int .i64 xk, .slice LA ln lc] 25)) [((⟨11, xa, xb, xk, xl⟩ : Ins), LA, lc)] #[.int .i64 11, .int .i64 xa, .int .i64 xb, .int .i64 xk, .slice LA ln lc] 1 (by simp [els, el, HLN.out]) rfl (by simp [maxLen])
          have HROW : Hid (RowE ((w3.alloc (.cells #[.int .i64 11, .int .i64 xa, .int .i64 xb, .int .i64 xk, .slice LA ln lc] 25)).alloc (.cells #[.int .i64 11, .int .i64 xa, .int .i64 xb, .int .i64 xk, .slice LA ln lc] 25)) (w3.heap.size + 1 + 1) (some ⟨w3.heap.size + 1, 0, none⟩) [((⟨11, xa, xb, xk, xl⟩ : Ins), LA, lc)]) := Lib.hid (by simpa using hrow)
          have HES : Hid ((es ++ [((⟨11, xa, xb, xk, xl⟩ : Ins), LA, lc)]).length = n + 1) := Lib.hid (by rw [List.length_append, H4.out]; rfl)
          have hn1 : n + 1 ≤ 1000000 := by have := HN.out; omega
          have hbas := HL5.out.below.size
          clear hsl hb5 hown5 hrow hln hown3 hb3 HONE HLN
          go_wp2_with (at_builtin; refine app_insG rfl (.tmp 79) (.tmp 81) rfl w.heap.size _ es rfl HL5.out.own (w3.heap.size + 1) 0 [((⟨11, xa, xb, xk, xl⟩ : Ins), LA, lc)] 1 1 _ (n + 1) rfl rfl HROW.out HES.out hn1 hbas ?_; intro A6 c6 w6 hown6 hg6 hob6)
          have hls6 := HL5.out.more HEV.out.1 HEV.out.2 hown6 hg6 hob6
          clear hown6 hg6 hob6 hbas hn1
          obtain ⟨A7, c7, hlv, hsli⟩ := hls6.sli
          rw [HES.out] at hlv
          rw [List.map_append] at hsli
          have HF := Lib.hid (And.intro hlv (And.intro hsli hls6.below))
          clear hlv hsli hls6
          go_wp2
          go_ret3
          rw [HE.out, HF.out.1]
          have hlen : ((es.map fun e : Ent => e.1) ++ [(⟨11, xa, xb, xk, xl⟩ : Ins)]).length = n + 1 := by rw [List.length_append, List.length_map, H4.out]; rfl
          refine ⟨A7, c7, ?_, HF.out.2.1, HF.out.2.2⟩
          rw [hlen]
          rfl
        | cons z st =>
          have hs0 : (((opS (z :: st)).size : Int) == 0) = false := by rw [opS_size]; simp; omega
          have hs1 : 0 < (opS (z :: st)).size := by rw [opS_size]; simp
          have hw : wrap64 (((opS (z :: st)).size : Int) - 1) = (st.length : Int) := by rw [opS_size, List.length_cons, IntWalk.wrap64_in _ (by simp only [List.length_cons] at h3; omega)]; omega
          have HE : Hid (joinB ((es.map fun e : Ent => e.1) ++ [⟨11, xa, xb, xk, xl⟩]) (bodyF l f (n + 1) st q) = R) := Lib.hid (by rw [← HJ.out]; exact (rj_next l _ f n p 0 (z :: st) st _ q HN.out HG.out (by unfold blocks; rw [if_neg (by simp), if_neg (by simp), if_pos rfl, if_neg (by simp)]; rfl)).symm)
          have hsl1 := fun W => opS_cut z st W
          have hlen5 : st.length ≤ 64 := by simp only [List.length_cons] at h3; omega
          go_wp2_with fail
          refine (HONE.out _ HLS.out.below).mono ?_
          rintro en w3 ⟨LA, lc, ln, hln, rfl, hown3, hb3⟩
          have HLN := Lib.hid hln
          have hsl : slV ((⟨11, xa, xb, xk, xl⟩ : Ins), LA, lc) = .slice LA ln lc := by unfold slV; rw [HLN.out]
          have hb5 : Below wr.heap.size wr ((w3.alloc (.cells #[.int .i64 11, .int .i64 xa, .int .i64 xb, .int .i64 xk, .slice LA ln lc] 25)).alloc (.cells #[.int .i64 11, .int .i64 xa, .int .i64 xb, .int .i64 xk, .slice LA ln lc] 25)) := (hb3.alloc hb3.size _).alloc (by have := hb3.size; simp; omega) _
          have HL5 := Lib.hid (HLS.out.keep hb5)
          have hown5 : OwnI ((w3.alloc (.cells #[.int .i64 11, .int .i64 xa, .int .i64 xb, .int .i64 xk, .slice LA ln lc] 25)).alloc (.cells #[.int .i64 11, .int .i64 xa, .int .i64 xb, .int .i64 xk, .slice LA ln lc] 25)) wr.heap.size (.slice LA ln lc) xl := (hown3.alloc _).alloc _
          have HEV : Hid (OwnI ((w3.alloc (.cells #[.int .i64 11, .int .i64 xa, .int .i64 xb, .int .i64 xk, .slice LA ln lc] 25)).alloc (.cells #[.int .i64 11, .int .i64 xa, .int .i64 xb, .int .i64 xk, .slice LA ln lc] 25)) w.heap.size (slV ((⟨11, xa, xb, xk, xl⟩ : Ins), LA, lc)) xl ∧ Apart (slV ((⟨11, xa, xb, xk, xl⟩ : Ins), LA, lc)) (.slice Ao n co)) := Lib.hid (by
            rw [hsl]
            exact ⟨rowFrom hown5 HLS.out.below.size, (apart_new HLS.out.own fun b e => (World.ownsRow.lt hown5 b e).1).2⟩)
          have hrow := rowE_lit (w3.alloc (.cells #[.int .i64 11, .int .i64 xa, .int .i64 xb, .int .i64 xk, .slice LA ln lc] 25)) [((⟨11, xa, xb, xk, xl⟩ : Ins), LA, lc)] #[.int .i64 11, .int .i64 xa, .int .i64 xb, .int .i64 xk, .slice LA ln lc] 1 (by simp [els, el, HLN.out]) rfl (by simp [maxLen])
          have HROW : Hid (RowE ((w3.alloc (.cells #[.int .i64 11, .int .i64 xa, .int .i64 xb, .int .i64 xk, .slice LA ln lc] 25)).alloc (.cells #[.int .i64 11, .int .i64 xa, .int .i64 xb, .int .i64 xk, .slice LA ln lc] 25)) (w3.heap.size + 1 + 1) (some ⟨w3.heap.size + 1, 0, none⟩) [((⟨11, xa, xb, xk, xl⟩ : Ins), LA, lc)]) := Lib.hid (by simpa using hrow)
          have HES : Hid ((es ++ [((⟨11, xa, xb, xk, xl⟩ : Ins), LA, lc)]).length = n + 1) := Lib.hid (by rw [List.length_append, H4.out]; rfl)
          have hn1 : n + 1 ≤ 1000000 := by have := HN.out; omega
          have hbas := HL5.out.below.size
          clear hsl hb5 hown5 hrow hln hown3 hb3 HONE HLN
          go_wp2_with (at_builtin; refine app_insG rfl (.tmp 84) (.tmp 86) rfl w.heap.size _ es rfl HL5.out.own (w3.heap.size + 1) 0 [((⟨11, xa, xb, xk, xl⟩ : Ins), LA, lc)] 1 1 _ (n + 1) rfl rfl HROW.out HES.out hn1 hbas ?_; intro A6 c6 w6 hown6 hg6 hob6)
          have hls6 := HL5.out.more HEV.out.1 HEV.out.2 hown6 hg6 hob6
          clear hown6 hg6 hob6 hbas hn1
          have hm : q ≤ l.length ∧ n + 1 ≤ 2000 ∧ l.length - q < f ∧ l.length + 1 - q < l.length + 1 - p := by have := HQ.out; have := HN.out; omega
          go_roundw
          case rel => exact ⟨q, n + 1, st, A6, c6, _, rfl, rfl, rfl, hls6, Lib.hid ⟨hm.1, hm.2.1, hlen5, HES.out, (fun y hy => H5.out y (by simp [hy])), f, hm.2.2.1, by rw [List.map_append]; exact HE.out⟩⟩
          case measure => simpa [intOf] using hm.2.2.2
      by_cases clo : 2 ≤ op
      rotate_left
      · have k1 : ¬ 2 ≤ op := clo
        have k5 : (op == 5) = false := by simp [c5]
        have k11 : (op == 11) = false := by simp [c11]
        have HE : Hid (joinB ((es.map fun e : Ent => e.1) ++ [⟨op, xa, xb, xk, xl⟩]) (bodyF l f (n + 1) st q) = R) := Lib.hid (by rw [← HJ.out]; exact (rj_next l _ f n p 0 st st _ q HN.out HG.out (by unfold blocks; rw [if_neg (by simp only; omega), if_neg c5, if_neg c11])).symm)
        clear c2 c3 c4 c5 c11 clo
        go_wp2_with fail
        refine (HONE.out _ HLS.out.below).mono ?_
        rintro en w3 ⟨LA, lc, ln, hln, rfl, hown3, hb3⟩
        have HLN := Lib.hid hln
        have hsl : slV ((⟨op, xa, xb, xk, xl⟩ : Ins), LA, lc) = .slice LA ln lc := by unfold slV; rw [HLN.out]
        have hb5 : Below wr.heap.size wr ((w3.alloc (.cells #[.int .i64 op, .int .i64 xa, .int .i64 xb, .int .i64 xk, .slice LA ln lc] 25)).alloc (.cells #[.int .i64 op, .int .i64 xa, .int .i64 xb, .int .i64 xk, .slice LA ln lc] 25)) := (hb3.alloc hb3.size _).alloc (by have := hb3.size; simp; omega) _
        have HL5 := Lib.hid (HLS.out.keep hb5)
        have hown5 : OwnI ((w3.alloc (.cells #[.int .i64 op, .int .i64 xa, .int .i64 xb, .int .i64 xk, .slice LA ln lc] 25)).alloc (.cells #[.int .i64 op, .int .i64 xa, .int .i64 xb, .int .i64 xk, .slice LA ln lc] 25)) wr.heap.size (.slice LA ln lc) xl := (hown3.alloc _).alloc _
        have HEV : Hid (OwnI ((w3.alloc (.cells #[.int .i64 op, .int .i64 xa, .int .i64 xb, .int .i64 xk, .slice LA ln lc] 25)).alloc (.cells #[.int .i64 op, .int .i64 xa, .int .i64 xb, .int .i64 xk, .slice LA ln lc] 25)) w.heap.size (slV ((⟨op, xa, xb, xk, xl⟩ : Ins), LA, lc)) xl ∧ Apart (slV ((⟨op, xa, xb, xk, xl⟩ : Ins), LA, lc)) (.slice Ao n co)) := Lib.hid (by
          rw [hsl]
          exact ⟨rowFrom hown5 HLS.out.below.size, (apart_new HLS.out.own fun b e => (World.ownsRow.lt hown5 b e).1).2⟩)
        have hrow := rowE_lit (w3.alloc (.cells #[.int .i64 op, .int .i64 xa, .int .i64 xb, .int .i64 xk, .slice LA ln lc] 25)) [((⟨op, xa, xb, xk, xl⟩ : Ins), LA, lc)] #[.int .i64 op, .int .i64 xa, .int .i64 xb, .int .i64 xk, .slice LA ln lc] 1 (by simp [els, el, HLN.out]) rfl (by simp [maxLen])
        have HROW : Hid (RowE ((w3.alloc (.cells #[.int .i64 op, .int .i64 xa, .int .i64 xb, .int .i64 xk, .slice LA ln lc] 25)).alloc (.cells #[.int .i64 op, .int .i64 xa, .int .i64 xb, .int .i64 xk, .slice LA ln lc] 25)) (w3.heap.size + 1 + 1) (some ⟨w3.heap.size + 1, 0, none⟩) [((⟨op, xa, xb, xk, xl⟩ : Ins), LA, lc)]) := Lib.hid (by simpa using hrow)
        have HES : Hid ((es ++ [((⟨op, xa, xb, xk, xl⟩ : Ins), LA, lc)]).length = n + 1) := Lib.hid (by rw [List.length_append, H4.out]; rfl)
        have hn1 : n + 1 ≤ 1000000 := by have := HN.out; omega
        have hbas := HL5.out.below.size
        clear hsl hb5 hown5 hrow hln hown3 hb3 HONE HLN
        go_wp2_with (at_builtin; refine app_insG rfl (.tmp 84) (.tmp 86) rfl w.heap.size _ es rfl HL5.out.own (w3.heap.size + 1) 0 [((⟨op, xa, xb, xk, xl⟩ : Ins), LA, lc)] 1 1 _ (n + 1) rfl rfl HROW.out HES.out hn1 hbas ?_; intro A6 c6 w6 hown6 hg6 hob6)
        have hls6 := HL5.out.more HEV.out.1 HEV.out.2 hown6 hg6 hob6
        clear hown6 hg6 hob6 hbas hn1
        have hm : q ≤ l.length ∧ n + 1 ≤ 2000 ∧ l.length - q < f ∧ l.length + 1 - q < l.length + 1 - p := by have := HQ.out; have := HN.out; omega
        go_roundw
        case rel => exact ⟨q, n + 1, st, A6, c6, _, rfl, rfl, rfl, hls6, Lib.hid ⟨hm.1, hm.2.1, h3, HES.out, H5.out, f, hm.2.2.1, by rw [List.map_append]; exact HE.out⟩⟩
        case measure => simpa [intOf] using hm.2.2.2
      · have k1 : 2 ≤ op := clo
        have k2 : ¬ op ≤ 4 := by omega
        have k5 : (op == 5) = false := by simp [c5]
        have k11 : (op == 11) = false := by simp [c11]
        have HE : Hid (joinB ((es.map fun e : Ent => e.1) ++ [⟨op, xa, xb, xk, xl⟩]) (bodyF l f (n + 1) st q) = R) := Lib.hid (by rw [← HJ.out]; exact (rj_next l _ f n p 0 st st _ q HN.out HG.out (by unfold blocks; rw [if_neg (by simp only; omega), if_neg c5, if_neg c11])).symm)
        clear c2 c3 c4 c5 c11 clo
        go_wp2_with fail
        refine (HONE.out _ HLS.out.below).mono ?_
        rintro en w3 ⟨LA, lc, ln, hln, rfl, hown3, hb3⟩
        have HLN := Lib.hid hln
        have hsl : slV ((⟨op, xa, xb, xk, xl⟩ : Ins), LA, lc) = .slice LA ln lc := by unfold slV; rw [HLN.out]
        have hb5 : Below wr.heap.size wr ((w3.alloc (.cells #[.int .i64 op, .int .i64 xa, .int .i64 xb, .int .i64 xk, .slice LA ln lc] 25)).alloc (.cells #[.int .i64 op, .int .i64 xa, .int .i64 xb, .int .i64 xk, .slice LA ln lc] 25)) := (hb3.alloc hb3.size _).alloc (by have := hb3.size; simp; omega) _
        have HL5 := Lib.hid (HLS.out.keep hb5)
        have hown5 : OwnI ((w3.alloc (.cells #[.int .i64 op, .int .i64 xa, .int .i64 xb, .int .i64 xk, .slice LA ln lc] 25)).alloc (.cells #[.int .i64 op, .int .i64 xa, .int .i64 xb, .int .i64 xk, .slice LA ln lc] 25)) wr.heap.size (.slice LA ln lc) xl := (hown3.alloc _).alloc _
        have HEV : Hid (OwnI ((w3.alloc (.cells #[.int .i64 op, .int .i64 xa, .int .i64 xb, .int .i64 xk, .slice LA ln lc] 25)).alloc (.cells #[.int .i64 op, .int .i64 xa, .int .i64 xb, .int .i64 xk, .slice LA ln lc] 25)) w.heap.size (slV ((⟨op, xa, xb, xk, xl⟩ : Ins), LA, lc)) xl ∧ Apart (slV ((⟨op, xa, xb, xk, xl⟩ : Ins), LA, lc)) (.slice Ao n co)) := Lib.hid (by
          rw [hsl]
          exact ⟨rowFrom hown5 HLS.out.below.size, (apart_new HLS.out.own fun b e => (World.ownsRow.lt hown5 b e).1).2⟩)
        have hrow := rowE_lit (w3.alloc (.cells #[.int .i64 op, .int .i64 xa, .int .i64 xb, .int .i64 xk, .slice LA ln lc] 25)) [((⟨op, xa, xb, xk, xl⟩ : Ins), LA, lc)] #[.int .i64 op, .int .i64 xa, .int .i64 xb, .int .i64 xk, .slice LA ln lc] 1 (by simp [els, el, HLN.out]) rfl (by simp [maxLen])
        have HROW : Hid (RowE ((w3.alloc (.cells #[.int .i64 op, .int .i64 xa, .int .i64 xb, .int .i64 xk, .slice LA ln lc] 25)).alloc (.cells #[.int .i64 op, .int .i64 xa, .int .i64 xb, .int .i64 xk, .slice LA ln lc] 25)) (w3.heap.size + 1 + 1) (some ⟨w3.heap.size + 1, 0, none⟩) [((⟨op, xa, xb, xk, xl⟩ : Ins), LA, lc)]) := Lib.hid (by simpa using hrow)
        have HES : Hid ((es ++ [((⟨op, xa, xb, xk, xl⟩ : Ins), LA, lc)]).length = n + 1) := Lib.hid (by rw [List.length_append, H4.out]; rfl)
        have hn1 : n + 1 ≤ 1000000 := by have := HN.out; omega
        have hbas := HL5.out.below.size
        clear hsl hb5 hown5 hrow hln hown3 hb3 HONE HLN
        go_wp2_with (at_builtin; refine app_insG rfl (.tmp 84) (.tmp 86) rfl w.heap.size _ es rfl HL5.out.own (w3.heap.size + 1) 0 [((⟨op, xa, xb, xk, xl⟩ : Ins), LA, lc)] 1 1 _ (n + 1) rfl rfl HROW.out HES.out hn1 hbas ?_; intro A6 c6 w6 hown6 hg6 hob6)
        have hls6 := HL5.out.more HEV.out.1 HEV.out.2 hown6 hg6 hob6
        clear hown6 hg6 hob6 hbas hn1
        have hm : q ≤ l.length ∧ n + 1 ≤ 2000 ∧ l.length - q < f ∧ l.length + 1 - q < l.length + 1 - p := by have := HQ.out; have := HN.out; omega
        go_roundw
        case rel => exact ⟨q, n + 1, st, A6, c6, _, rfl, rfl, rfl, hls6, Lib.hid ⟨hm.1, hm.2.1, h3, HES.out, H5.out, f, hm.2.2.1, by rw [List.map_append]; exact HE.out⟩⟩
        case measure => simpa [intOf] using hm.2.2.2
    · have HE : Hid (R = ([], 0, e)) := Lib.hid (by rw [← hj]; exact rj_err l _ f n p e st x q hg he)
      have hne : ((e : Int) != 0) = true := by simp; omega
      clear hg hj h1 h2 h3 h4 h5 hf hLL he
      go_wp2_with fail
      refine (HONE.out _ HLS.out.below).mono ?_
      rintro en w3 ⟨LA, lc, ln, hln, rfl, hown3, hb3⟩
      have HLN := Lib.hid hln
      have HBL := Lib.hid ((HLS.out.keep hb3).below)
      clear hln hown3 hb3 HONE HLN
      go_wp2
      go_ret3
      rw [HE.out]
      exact ⟨none, 0, rfl, ⟨Inss.nil _ _ _, fun _ => rfl, Nat.le_refl _⟩, HBL.out.alloc HBL.out.size _⟩
end Go.Proofs.Ytdipgokbfjbgfaa.Ins
