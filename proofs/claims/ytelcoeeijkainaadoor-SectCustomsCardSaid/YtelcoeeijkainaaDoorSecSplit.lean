/-
  sect.Split: what it answers is splitRes. Condition: the slice leads to bytes.
-/
import Derived.Test.YtelcoeeijkainaaDoorSecFirst
namespace Go.Proofs.YtelcoeeijkainaaDoor.Sec
open Go.RowKit Leb

/-- How long a slice is. -/
def slLen : Value → Nat
  | .slice _ n _ => n
  | _ => 0
/-- One section more, or the error: what first tells is what the split has. -/
theorem step_first {l : List Nat} {R : List Sec × Nat} {p : Nat} {es : List Ent} {last : Int} (h : At l R p es) (hL : LastIs (es.map fun e => e.1) last) (hp : p < l.length) :
    (∃ k, k ≠ 0 ∧ R = (es.map (fun e => e.1), k) ∧ ∀ w r e w', FirstIs w r last (l.drop p) e w' → FirstBad w r k e w') ∨
    (∃ y u n sg, n ≤ l.length - p ∧ 0 < n ∧ sg.length = u ∧ (∀ A c, At l R (p + n) (es ++ [((⟨(y : Nat), sg⟩ : Sec), A, c)])) ∧ LastIs ((es.map fun e => e.1) ++ [⟨(y : Nat), sg⟩]) (takeL last (y : Nat)) ∧ ∀ w r e w', FirstIs w r last (l.drop p) e w' → FirstOk w r y n u (takeL last (y : Nat)) sg e w') := by
  have h1 : (l.drop p).getD 0 0 = l[p] := by simp [List.getD, hp]
  have h2 : (l.drop p).drop 1 = l.drop (p + 1) := by rw [List.drop_drop]
  have hm := hL.may (l[p] : Nat)
  obtain ⟨u, s, e, hu⟩ : ∃ u s e, uRes (l.drop (p + 1)) 32 = (u, s, e) := ⟨_, _, _, rfl⟩
  have h3 : (l.drop p).length - (1 + s) = l.length - (p + 1 + s) := by rw [List.length_drop]; omega
  have h4 : (l.drop p).drop (1 + s) = l.drop (p + 1 + s) := by rw [List.drop_drop, show p + (1 + s) = p + 1 + s from by omega]
  by_cases ht : takeB last (l[p] : Nat) = false
  · exact .inl ⟨2, by simp, h.bad hp (by rw [hm, ht]), fun w r e w' hf => by
      unfold FirstIs at hf
      rw [h1, if_pos ht] at hf
      exact hf⟩
  · have ht2 : takeB last (l[p] : Nat) = true := by simpa using ht
    have hm2 := hm.trans ht2
    by_cases he : e = 0
    · subst he
      by_cases hl : l.length - (p + 1 + s) < u
      · exact .inl ⟨1, by simp, h.short hp hm2 hu hl, fun w r e w' hf => by
          unfold FirstIs at hf
          rw [h1, if_neg ht, h2, hu, if_neg (by simp), h3, if_pos hl] at hf
          exact hf⟩
      · have hi := uRes_in hu
        rw [List.length_drop] at hi
        refine .inr ⟨l[p], u, 1 + s + u, (l.drop (p + 1 + s)).take u, by omega, by omega, by simp; omega, fun A c => ?_, hL.next ⟨(l[p] : Nat), (l.drop (p + 1 + s)).take u⟩ ht2, fun w r e w' hf => ?_⟩
        · have := h.next hp hm2 hu hl A c
          rwa [show p + 1 + s + u = p + (1 + s + u) from by omega] at this
        · unfold FirstIs at hf
          rw [h1, if_neg ht, h2, hu, if_neg (by simp), h3, if_neg hl, h4] at hf
          exact hf
    · exact .inl ⟨e, he, h.num hp hm2 hu he, fun w r e1 w' hf => by
        unfold FirstIs at hf
        rw [h1, if_neg ht, h2, hu, if_pos he] at hf
        exact hf⟩
theorem LS.at {w W : World} {et : TypeId} {r : Option Nat} {A : Option Addr} {n c : Nat} {es : List Ent} (h : LS w W et r (.slice A n c) es) : Sli W W.heap.size A c (es.map fun e => e.1) := by
  obtain ⟨A', c', e, hs⟩ := h.sli
  injection e with e1 e2 e3
  rw [e1, e3]
  exact hs
theorem osplit_long (A : Option Addr) (l : List Nat) (c : Nat) (w : World) (h : 65536 < (l.length : Int)) : Calls Tryd.prog 11 #[.slice A l.length c] w (SplitIs w ([], 4) 0) := by
  go_enter Tryd.func11, Tryd.ntmps11
  go_wp2
  go_ret2
  exact splitIs_nil _ _ _ (Below.refl _ _)
set_option maxHeartbeats 1000000 in
set_option maxRecDepth 100000 in
theorem osplit_short (A : Option Addr) (l : List Nat) (c : Nat) (w : World) (hs : Slc w w.heap.size A c l) (hl : (l.length : Int) ≤ 65536) : Calls Tryd.prog 11 #[.slice A l.length c] w fun e w' => SplitIs w (splitRes l) (splitRes l).1.length e w' := by
  have HS := Lib.hid hs
  have HL := Lib.hid hl
  have HBG := Lib.hid (begins_any A l c w.heap.size w hs)
  by_cases hh : headErr l = 0
  · have h8 : 8 ≤ l.length := by
      unfold headErr at hh
      split at hh
      · split at hh
        · omega
        · omega
      · omega
    have H0 := Lib.hid (At.start l hh (by omega) h8)
    rw [hh] at HBG
    obtain ⟨A2, c2, HSL, hB⟩ := slice_at A l c 8 w.heap.size w hs h8
    rw [show ((8 : Nat) : Int) = 8 from rfl] at HSL
    have HB8 := Lib.hid hB
    generalize splitRes l = R at *
    clear hs hB h8 hh
    go_enter Tryd.func11, Tryd.ntmps11
    go_wp2_with fail
    refine HBG.out.mono ?_
    rintro e1 w1 ⟨rfl, m, rfl⟩
    have hd := below_drewN (Below.refl w.heap.size w) m
    have hszd : (w.drewN m).heap.size = w.heap.size := rfl
    have hd2 := hd.alloc hd.size (.cells #[.int .i64 0] 52)
    have HLS := Lib.hid (ls_nil w ((w.drewN m).alloc (.cells #[.int .i64 0] 52)) 38 (some w.heap.size) hd2 (fun k hk => by injection hk with hk; subst hk; exact ⟨by simp, Nat.le_refl _⟩))
    have HO : Hid (OrdAt ((w.drewN m).alloc (.cells #[.int .i64 0] 52)) w.heap.size 0) := Lib.hid (OrdAt.new (w.drewN m) 52)
    clear hd hszd hd2 HBG
    have HST : Hid (l.length - 8 = l.length - 8 ∧ At l R 8 [] ∧ LastIs (([] : List Ent).map fun e => e.1) 0 ∧ ∀ W, Slc W w.heap.size A c l → Slc W w.heap.size A2 c2 (l.drop 8)) := Lib.hid ⟨rfl, H0.out, last_nil, HB8.out⟩
    clear H0 HB8
    go_wp2_with fail
    go_loopw [5, 7] (fun x5 x7 wr => ∃ (p k : Nat) (lv : Value) (es : List Ent) (last : Int) (A' : Option Addr) (c' : Nat), x5 = lv ∧ x7 = .slice A' k c' ∧ LS w wr 38 (some w.heap.size) lv es ∧ OrdAt wr w.heap.size last ∧ Hid (k = l.length - p ∧ At l R p es ∧ LastIs (es.map fun e => e.1) last ∧ ∀ W, Slc W w.heap.size A c l → Slc W w.heap.size A' c' (l.drop p))) (fun _ x7 _ => slLen x7)
    case atStart => exact ⟨8, l.length - 8, _, [], 0, A2, c2, rfl, rfl, HLS.out, HO.out, Lib.hid ⟨rfl, HST.out.2⟩⟩
    case round =>
      obtain ⟨p, k, lv, es, last, A', c', rfl, rfl, hls, ho, HI⟩ := hrel
      clear HLS HO HST HSL
      obtain ⟨A1, c1, hlv, hsli⟩ := hls.sli
      obtain ⟨hk, hat, hlast, hslc⟩ := HI.out
      by_cases hk0 : k = 0
      · have hki : ¬ (0 : Int) < (k : Int) := by omega
        have hp : p = l.length := by have := hat.le; omega
        subst hp
        have HF := Lib.hid (splitIs_of hat.done hsli hls.below)
        subst hlv
        clear hls hsli hat hlast hslc HI hk
        go_wp2
        go_ret2
        exact HF.out
      · have hki : (0 : Int) < (k : Int) := by omega
        have hpl : p < l.length := by omega
        have hslw := hslc wr (HS.out.below hls.below)
        have hfi := first_any A' (l.drop p) c' w.heap.size w.heap.size last wr hslw (by rw [List.length_drop]; omega) (by rw [List.length_drop]; omega) hls.below.size (Nat.le_refl _) ho
        rw [List.length_drop, ← hk] at hfi
        have HLS := Lib.hid hls
        have HOR := Lib.hid ho
        subst hlv
        rcases step_first hat hlast hpl with ⟨e, he, hR, hbad⟩ | ⟨y, u, n, sg, hn, hn0, hsg, hnext, hlnext, hok⟩
        · have HC := Lib.hid (hfi.mono (fun e1 w' h => hbad _ _ _ _ h))
          have hne : ((e : Int) != 0) = true := by simp; omega
          have HF : Hid (∀ W o, wr.grownBy W (some w.heap.size) → SplitIs w R R.1.length (.returned (.tuple #[.slice A1 es.length c1, .int .i64 (e : Int)])) (W.alloc o)) := Lib.hid fun W o hg => by
            have h1 := (HLS.out.keepG hg).keep ((Below.refl _ _).alloc (Nat.le_refl _) o)
            exact splitIs_of hR h1.at h1.below
          clear hls hsli hat hlast hslc HI hk hslw hfi ho hR hbad he hk0 HLS HOR
          go_wp2_with fail
          refine HC.out.mono ?_
          rintro e1 w2 ⟨rfl, hg2⟩
          go_wp2
          go_ret2
          exact HF.out _ _ hg2
        · have HC := Lib.hid (hfi.mono (fun e1 w' h => hok _ _ _ _ h))
          obtain ⟨A3, c3, HSL, hB3⟩ := slice_at A' (l.drop p) c' n w.heap.size wr hslw (by rw [List.length_drop]; exact hn)
          rw [List.length_drop, ← hk] at HSL
          have HN : Hid (k - n = l.length - (p + n) ∧ k - n < k ∧ (∀ W, Slc W w.heap.size A c l → Slc W w.heap.size A3 c3 (l.drop (p + n))) ∧ es.length < l.length) := Lib.hid ⟨by omega, by omega, fun W hW => by have := hB3 W (hslc W hW); rwa [List.drop_drop] at this, by have := hat.few; omega⟩
          have HA := Lib.hid (And.intro hnext (And.intro hlnext hsg))
          clear hls hsli hat hlast hslc HI hk hslw hfi ho hok hk0 hB3 hnext hlnext hsg hn hn0
          go_wp2_with fail
          refine HC.out.mono ?_
          rintro e1 w2 ⟨A5, c5, rfl, ho2, hg2, hby2, hr2, hn2, hnew⟩
          have hA : Below w2.heap.size w2 (w2.alloc (.cells #[.int .i64 (y : Int), .slice A5 u c5] 38)) := (Below.refl _ _).alloc (Nat.le_refl _) _
          have hA2 : Below w2.heap.size w2 ((w2.alloc (.cells #[.int .i64 (y : Int), .slice A5 u c5] 38)).alloc (.cells #[.int .i64 (y : Int), .slice A5 u c5] 38)) := hA.alloc hA.size _
          have hL3 := (HLS.out.keepG hg2).keep hA2
          have hrow := rowE_lit (w2.alloc (.cells #[.int .i64 (y : Int), .slice A5 u c5] 38)) 38 [((⟨(y : Int), sg⟩ : Sec), A5, c5)] #[.int .i64 (y : Int), .slice A5 u c5] 1 (by simp [els, el, HA.out.2.2]) rfl (by simp [maxLen])
          have hlab : lab ((w2.alloc (.cells #[.int .i64 (y : Int), .slice A5 u c5] 38)).alloc (.cells #[.int .i64 (y : Int), .slice A5 u c5] 38)) ((w2.alloc (.cells #[.int .i64 (y : Int), .slice A5 u c5] 38)).alloc (.cells #[.int .i64 (y : Int), .slice A5 u c5] 38)).heap.size ((⟨(y : Int), sg⟩ : Sec), A5, c5) := ⟨(hby2.below hA2).more hA2.size, by show sg.length ≤ c5; rw [HA.out.2.2]; exact hr2, hn2⟩
          have hoff : OffB (Value.slice A1 es.length c1).ownBlock ((⟨(y : Int), sg⟩ : Sec), A5, c5) := by
            intro _ a ha e2
            have h1 := HLS.out.own.lt _ e2
            have h2 := hnew a ha
            omega
          have hoffr : ∀ k, some w.heap.size = some k → OffB (some k) ((⟨(y : Int), sg⟩ : Sec), A5, c5) := by
            intro k hk _ a ha e2
            have h1 := HOR.out.lt
            have h2 := hnew a ha
            injection hk with hk
            injection e2 with e2
            omega
          have HN2 := Lib.hid (And.intro hL3 (And.intro hlab (And.intro hoff (And.intro hoffr (ho2.keep hA2)))))
          have HROW := Lib.hid hrow
          have hown := hL3.own
          have hbase := hL3.below.size
          have HES : Hid ((es ++ [((⟨(y : Int), sg⟩ : Sec), A5, c5)]).length = es.length + 1) := Lib.hid (by rw [List.length_append]; rfl)
          have hkk : es.length + 1 ≤ 1000000 := by have := HN.out.2.2.2; have := HL.out; omega
          clear hA hA2 hL3 hrow hlab hoff hoffr ho2 hg2 hby2 hr2 hn2 hnew HC HLS HOR
          go_wp2_with (at_builtin; refine app_sec tyO rfl (.tmp 34) (.tmp 36) rfl w.heap.size _ es rfl hown (w2.heap.size + 1) 0 [((⟨(y : Int), sg⟩ : Sec), A5, c5)] 1 1 _ (es.length + 1) rfl rfl (by have := HROW.out; simpa using this) HES.out hkk hbase ?_; intro A6 c6 w6 hown6 hg6 hob6)
          obtain ⟨n1, n2, n3, n4, n5⟩ := HN2.out
          have hls6 := n1.more n2 n3 n4 hown6 hg6 hob6
          have ho6 := n5.step hg6.size (hg6.block _ n5.lt (fun e => (n1.offR _ rfl).2.2.1 e.symm))
          obtain ⟨m1, m2, m3, m4⟩ := HN.out
          obtain ⟨a1, a2, a3⟩ := HA.out
          go_roundw
          case rel => exact ⟨p + n, k - n, _, _, _, A3, c3, rfl, rfl, hls6, ho6, Lib.hid ⟨m1, a1 A5 c5, by rw [List.map_append]; exact a2, m3⟩⟩
          case measure => simp [slLen]; omega
  · have HR : Hid (splitRes l = ([], headErr l)) := Lib.hid (by unfold splitRes; rw [if_neg (by omega), if_pos hh])
    have hne : ((headErr l : Int) != 0) = true := by simp; omega
    generalize headErr l = k at *
    clear hs hh
    go_enter Tryd.func11, Tryd.ntmps11
    go_wp2_with fail
    refine HBG.out.mono ?_
    rintro e1 w1 ⟨rfl, m, rfl⟩
    go_wp2
    go_ret2
    rw [HR.out]
    exact splitIs_nil _ _ _ (below_drewN (Below.refl _ _) _)
theorem osplit_any (A : Option Addr) (l : List Nat) (c : Nat) (w : World) (hs : Slc w w.heap.size A c l) : Calls Tryd.prog 11 #[.slice A l.length c] w fun e w' => SplitIs w (splitRes l) (splitRes l).1.length e w' := by
  by_cases h : 65536 < l.length
  · have hr : splitRes l = ([], 4) := by unfold splitRes; rw [if_pos h]
    rw [hr]
    exact osplit_long A l c w (by omega)
  · exact osplit_short A l c w hs (by omega)
end Go.Proofs.YtelcoeeijkainaaDoor.Sec
