/-
  InsRCopy: trammelref06.Copy: instructions in memory of their own. Condition: the slice leads to instructions, at most 2100, each of at most 100 labels.
-/
import Derived.Test.YtdipgokbfjbgfaaInsLs
import Derived.BigQuiet
namespace Go.Proofs.Ytdipgokbfjbgfaa.Ins
open Go.RowKit Leb Typ

/-- What Copy answers. -/
def CopyIs (w : World) (xs : List Ins) (n : Nat) (e : Ending) (w' : World) : Prop := ∃ A c, e = .returned (.slice A n c) ∧ Sli w' A c xs ∧ Below w.heap.size w w'
set_option maxHeartbeats 4000000 in
set_option maxRecDepth 100000 in
theorem rcopy_any (A : Option Addr) (xs : List Ins) (c : Nat) (w : World) (hs : Inss w w.heap.size A xs) (hn : (xs.length : Int) ≤ 2100) (hl : ∀ x ∈ xs, x.l.length ≤ 100) : Calls Try.prog 10 #[.slice A xs.length c] w (CopyIs w xs xs.length) := by
  have HS := Lib.hid hs
  have HL := Lib.hid hl
  clear hs hl
  go_enter Try.func10, Try.ntmps10
  go_wp2_with fail
  go_loopw [3, 4] (fun x3 x4 wr => ∃ (j : Nat) (lv : Value) (es : List Ent), j ≤ xs.length ∧ x3 = lv ∧ x4 = .int .i64 (j : Int) ∧ LS w wr lv es ∧ Hid (es.map (fun e : Ent => e.1) = xs.take j)) (fun _ i _ => xs.length - (intOf i).toNat)
  case atStart => exact ⟨0, _, [], Nat.zero_le _, rfl, by go_num, ls_nil w, Lib.hid (by simp)⟩
  case round =>
    obtain ⟨j, lv, es, hj, rfl, rfl, hls, HE⟩ := hrel
    by_cases hjl : j < xs.length
    · have hji : (j : Int) < (xs.length : Int) := by omega
      obtain ⟨b, off, rfl, hb, hc⟩ := HS.out (by omega)
      obtain ⟨LA, lc, q0, q1, q2, q3, q4, q5, q6, q7⟩ := hc j hjl
      have hxl := HL.out _ (List.getElem_mem hjl)
      have hel : es.length = j := by have := congrArg List.length HE.out; simpa [Nat.min_eq_left (Nat.le_of_lt hjl)] using this
      have HLS := Lib.hid hls
      have C : ∀ i, wr.cell? ⟨b, i, none⟩ = w.cell? ⟨b, i, none⟩ := fun i => hls.below.cell (p := ⟨b, i, none⟩) hb
      have d0 := (C _).trans q0
      have d1 := (C _).trans q1
      have d2 := (C _).trans q2
      have d3 := (C _).trans q3
      have d4 := (C _).trans q4
      have HEN : Hid (∀ (y : Option Addr) (v : Nat), (es ++ [((⟨xs[j].op, xs[j].a, xs[j].b, xs[j].k, xs[j].l⟩ : Ins), (y : Option Addr), (v : Nat))]).map (fun e : Ent => e.1) = xs.take (j + 1)) := Lib.hid fun y v => by
        rw [List.map_append, HE.out, List.take_succ_eq_append_getElem hjl]; rfl
      have hints : Ints w w.heap.size LA xs[j].l := q5
      have HQ := Lib.hid (And.intro hints (And.intro q6 q7))
      clear C q0 q1 q2 q3 q4 q5 q6 q7 hc hls hints HE
      generalize hln : xs[j].l.length = ln at *
      generalize xs[j].l = ls at *
      generalize xs[j].op = op at *
      generalize xs[j].a = xa at *
      generalize xs[j].b = xb at *
      generalize xs[j].k = xk at *
      have HLN := Lib.hid hln
      clear hln
      have hA : Below wr.heap.size wr (wr.alloc (.cells #[.int .i64 op, .int .i64 xa, .int .i64 xb, .int .i64 xk, .slice LA ln lc] 25)) := (Below.refl _ _).alloc (Nat.le_refl _) _
      have hszA : (wr.alloc (.cells #[.int .i64 op, .int .i64 xa, .int .i64 xb, .int .i64 xk, .slice LA ln lc] 25)).heap.size = wr.heap.size + 1 := by simp
      have hB : Below wr.heap.size wr ((wr.alloc (.cells #[.int .i64 op, .int .i64 xa, .int .i64 xb, .int .i64 xk, .slice LA ln lc] 25)).alloc (.cells #[] 3)) := hA.alloc hA.size _
      have hown0 := int_none (wr.alloc (.cells #[.int .i64 op, .int .i64 xa, .int .i64 xb, .int .i64 xk, .slice LA ln lc] 25))
      rw [hszA] at hown0
      have hi0 : Ints ((wr.alloc (.cells #[.int .i64 op, .int .i64 xa, .int .i64 xb, .int .i64 xk, .slice LA ln lc] 25)).alloc (.cells #[] 3)) w.heap.size LA ls := (HQ.out.1.below HLS.out.below).below (hB.mono HLS.out.below.size)
      have hbas : wr.heap.size + 1 ≤ ((wr.alloc (.cells #[.int .i64 op, .int .i64 xa, .int .i64 xb, .int .i64 xk, .slice LA ln lc] 25)).alloc (.cells #[] 3)).heap.size := by simp
      have HX : Hid (∀ W, Below (wr.heap.size + 1) ((wr.alloc (.cells #[.int .i64 op, .int .i64 xa, .int .i64 xb, .int .i64 xk, .slice LA ln lc] 25)).alloc (.cells #[] 3)) W → W.cell? ⟨wr.heap.size, 0, none⟩ = some (.int .i64 op) ∧ W.cell? ⟨wr.heap.size, 1, none⟩ = some (.int .i64 xa) ∧ W.cell? ⟨wr.heap.size, 2, none⟩ = some (.int .i64 xb) ∧ W.cell? ⟨wr.heap.size, 3, none⟩ = some (.int .i64 xk) ∧ W.cell? ⟨wr.heap.size, 4, none⟩ = some (.slice LA ln lc) ∧ W.frozen? ⟨wr.heap.size, 4, none⟩ = false) := Lib.hid fun W hW => by
        have C : ∀ i, W.cell? ⟨wr.heap.size, i, none⟩ = ((wr.alloc (.cells #[.int .i64 op, .int .i64 xa, .int .i64 xb, .int .i64 xk, .slice LA ln lc] 25)).alloc (.cells #[] 3)).cell? ⟨wr.heap.size, i, none⟩ := fun i => hW.cell (p := ⟨wr.heap.size, i, none⟩) (Nat.lt_succ_self _)
        have F : W.frozen? ⟨wr.heap.size, 4, none⟩ = ((wr.alloc (.cells #[.int .i64 op, .int .i64 xa, .int .i64 xb, .int .i64 xk, .slice LA ln lc] 25)).alloc (.cells #[] 3)).frozen? ⟨wr.heap.size, 4, none⟩ := hW.frozen (p := ⟨wr.heap.size, 4, none⟩) (Nat.lt_succ_self _)
        exact ⟨(C _).trans (by simp), (C _).trans (by simp), (C _).trans (by simp), (C _).trans (by simp), (C _).trans (by simp), F.trans (by simp)⟩
      have HOB := Lib.hid (And.intro hown0 (And.intro hi0 (And.intro hbas hB)))
      clear hA hB hown0 hi0 hbas hszA
      have HN2 : Hid (∀ (w4 : World) (A4 : Option Addr) (c4 : Nat), OwnI w4 (wr.heap.size + 1) (.slice A4 ln c4) ls → Below (wr.heap.size + 1) ((wr.alloc (.cells #[.int .i64 op, .int .i64 xa, .int .i64 xb, .int .i64 xk, .slice LA ln lc] 25)).alloc (.cells #[] 3)) w4 → LS w ((w4.setCell ⟨wr.heap.size, 4, none⟩ (.slice A4 ln c4)).alloc (.cells #[.int .i64 op, .int .i64 xa, .int .i64 xb, .int .i64 xk, .slice A4 ln c4] 25)) u3 es ∧ RowE ((w4.setCell ⟨wr.heap.size, 4, none⟩ (.slice A4 ln c4)).alloc (.cells #[.int .i64 op, .int .i64 xa, .int .i64 xb, .int .i64 xk, .slice A4 ln c4] 25)) (w4.heap.size + 1) (some ⟨w4.heap.size, 0, none⟩) [((⟨op, xa, xb, xk, ls⟩ : Ins), A4, c4)] ∧ OwnI ((w4.setCell ⟨wr.heap.size, 4, none⟩ (.slice A4 ln c4)).alloc (.cells #[.int .i64 op, .int .i64 xa, .int .i64 xb, .int .i64 xk, .slice A4 ln c4] 25)) w.heap.size (slV ((⟨op, xa, xb, xk, ls⟩ : Ins), A4, c4)) ls ∧ Apart (slV ((⟨op, xa, xb, xk, ls⟩ : Ins), A4, c4)) u3 ∧ w.heap.size ≤ ((w4.setCell ⟨wr.heap.size, 4, none⟩ (.slice A4 ln c4)).alloc (.cells #[.int .i64 op, .int .i64 xa, .int .i64 xb, .int .i64 xk, .slice A4 ln c4] 25)).heap.size) := Lib.hid fun w4 A4 c4 ho hb4 => by
        have hsl : slV ((⟨op, xa, xb, xk, ls⟩ : Ins), A4, c4) = .slice A4 ln c4 := by unfold slV; rw [HLN.out]
        have hbig := HOB.out.2.2.2.trans (hb4.mono (Nat.le_succ _))
        have hset : Below wr.heap.size wr (w4.setCell ⟨wr.heap.size, 4, none⟩ (.slice A4 ln c4)) := hbig.setCell (Nat.le_refl _) _
        have h5 : Below wr.heap.size wr ((w4.setCell ⟨wr.heap.size, 4, none⟩ (.slice A4 ln c4)).alloc (.cells #[.int .i64 op, .int .i64 xa, .int .i64 xb, .int .i64 xk, .slice A4 ln c4] 25)) := hset.alloc hset.size _
        have hls5 := HLS.out.keep h5
        have hown5 : OwnI ((w4.setCell ⟨wr.heap.size, 4, none⟩ (.slice A4 ln c4)).alloc (.cells #[.int .i64 op, .int .i64 xa, .int .i64 xb, .int .i64 xk, .slice A4 ln c4] 25)) (wr.heap.size + 1) (.slice A4 ln c4) ls := OwnI.alloc (rowSame ho fun b e => Below.heap_setCell _ _ _ _ (by have := (World.ownsRow.lt ho b e).1; simp; omega)) _
        have hrow := rowE_lit (w4.setCell ⟨wr.heap.size, 4, none⟩ (.slice A4 ln c4)) [((⟨op, xa, xb, xk, ls⟩ : Ins), A4, c4)] #[.int .i64 op, .int .i64 xa, .int .i64 xb, .int .i64 xk, .slice A4 ln c4] 1 (by simp [els, el, HLN.out]) rfl (by simp [maxLen])
        refine ⟨hls5, by simpa using hrow, ?_, ?_, hls5.below.size⟩
        · rw [hsl]; exact rowFrom hown5 (Nat.le_succ_of_le HLS.out.below.size)
        · rw [hsl]; exact (apart_new HLS.out.own fun b e => by
            have := (World.ownsRow.lt hown5 b e).1
            omega).2
      have hes : ∀ (y : Option Addr) (v : Nat), (es ++ [((⟨op, xa, xb, xk, ls⟩ : Ins), y, v)]).length = j + 1 := fun y v => by rw [List.length_append, hel]; rfl
      have HES := Lib.hid hes
      have hj1 : j + 1 ≤ 1000000 := by omega
      clear hes hel
      go_wp2_with (at_builtin; first | (refine app_ints rfl (.tmp 16) (.tmp 18) rfl (wr.heap.size + 1) _ [] rfl HOB.out.1 LA ls ln lc _ ln HLN.out rfl HOB.out.2.1 HQ.out.2.2 (by simpa using HLN.out) (by omega) HOB.out.2.2.1 ?_; intro A4 c4 w4 hown4 hb4; obtain ⟨x0, x1, x2, x3, x4, f4⟩ := HX.out w4 hb4; obtain ⟨n1, n2, n3, n4, n5⟩ := HN2.out w4 A4 c4 hown4 hb4; have N := Lib.hid (And.intro n1 (And.intro n2 (And.intro n3 n4))); clear d0 d1 d2 d3 d4 n1 n2 n3 n4) | (refine app_insG rfl (.tmp 21) (.tmp 23) rfl w.heap.size _ es rfl N.out.1.own w4.heap.size 0 [((⟨op, xa, xb, xk, ls⟩ : Ins), A4, c4)] 1 1 _ (j + 1) rfl rfl N.out.2.1 (HES.out _ _) hj1 n5 ?_; intro A6 c6 w6 hown6 hg6 hob6))
      have hls6 := N.out.1.more N.out.2.2.1 N.out.2.2.2 hown6 hg6 hob6
      have hj2 : j + 1 ≤ xs.length := by omega
      clear HOB HX HN2 HLS HQ hown6 hg6 hob6 n5 x0 x1 x2 x3 x4 f4
      go_roundw
      case rel => exact ⟨j + 1, _, _, hj2, rfl, by go_num, hls6, Lib.hid (HEN.out A4 c4)⟩
      case measure => simp [intOf]; omega
    · obtain rfl : j = xs.length := by omega
      have hji : ¬ (xs.length : Int) < (xs.length : Int) := by omega
      have he := HE.out
      rw [List.take_length] at he
      have hel : es.length = xs.length := by rw [← he]; simp
      obtain ⟨A1, c1, hlv, hsli⟩ := hls.sli
      rw [he] at hsli
      rw [hel] at hlv
      have HF := Lib.hid (And.intro hlv (And.intro hsli hls.below))
      clear hls hlv hsli he HE HS HL hel
      go_wp2
      go_ret
      rw [HF.out.1]
      exact ⟨A1, c1, rfl, HF.out.2.1, HF.out.2.2⟩
end Go.Proofs.Ytdipgokbfjbgfaa.Ins
