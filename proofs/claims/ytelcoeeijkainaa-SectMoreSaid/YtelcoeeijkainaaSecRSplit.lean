/-
  trammelref07.Split: what it answers is splitRes. Condition: the slice leads to bytes.
-/
import Derived.Test.YtelcoeeijkainaaSecHead
import Derived.Test.YtelcoeeijkainaaSecCut
import Derived.Deep.DeepCutAuto
import Derived.Test.YtelcoeeijkainaaLebRefU
import Derived.Test.YtelcoeeijkainaaLebRefPut
namespace Go.Proofs.Ytelcoeeijkainaa.Sec
open Go.RowKit Leb

/-- What a split answers. -/
def SplitIs (w : World) (r : List Sec × Nat) (n : Nat) (e : Ending) (w' : World) : Prop := ∃ A c, e = .returned (.tuple #[.slice A n c, .int .i64 (r.2 : Int)]) ∧ Sli w' w'.heap.size A c r.1 ∧ r.1.length = n ∧ Below w.heap.size w w'
theorem splitIs_nil (w w' : World) (e : Nat) (h : Below w.heap.size w w') : SplitIs w ([], e) 0 (.returned (.tuple #[.slice none 0 0, .int .i64 (e : Int)])) w' := ⟨none, 0, rfl, ⟨Secs.nil _ _ _, Nat.le_refl _, fun _ => rfl⟩, rfl, h⟩
theorem splitIs_of {w w' : World} {R : List Sec × Nat} {es : List Ent} {e : Nat} {A : Option Addr} {c : Nat} (hR : R = (es.map (fun e => e.1), e)) (hs : Sli w' w'.heap.size A c (es.map fun e => e.1)) (h : Below w.heap.size w w') : SplitIs w R R.1.length (.returned (.tuple #[.slice A es.length c, .int .i64 (e : Int)])) w' := by
  subst hR
  refine ⟨A, c, ?_, hs, rfl, h⟩
  rw [List.length_map]
theorem rsplit_long (A : Option Addr) (l : List Nat) (c : Nat) (w : World) (h : 65536 < (l.length : Int)) : Calls Try.prog 9 #[.slice A l.length c] w (SplitIs w ([], 4) 0) := by
  go_enter Try.func9, Try.ntmps9
  go_wp2
  go_ret2
  exact splitIs_nil _ _ _ (Below.refl _ _)
/-- The state of a split at a place. -/
structure At (l : List Nat) (R : List Sec × Nat) (p : Nat) (es : List Ent) : Prop where
  le : p ≤ l.length
  few : es.length ≤ p
  ids : ∀ s ∈ es.map (fun e => e.1), 0 ≤ s.id ∧ s.id ≤ 12
  res : ∃ f, l.length - p < f ∧ splitF l f (es.map fun e => e.1) p = R
theorem At.done {l : List Nat} {R : List Sec × Nat} {es : List Ent} (h : At l R l.length es) : R = (es.map (fun e => e.1), 0) := by
  obtain ⟨f, hf, h⟩ := h.res
  obtain ⟨f, rfl⟩ : ∃ f', f = f' + 1 := ⟨f - 1, by omega⟩
  rw [← h]
  simp only [splitF]
  rw [if_pos (Nat.le_refl _)]
theorem At.bad {l : List Nat} {R : List Sec × Nat} {p : Nat} {es : List Ent} (h : At l R p es) (hp : p < l.length) (hm : may (es.map fun e => e.1) (l[p] : Nat) = false) : R = (es.map (fun e => e.1), 2) := by
  obtain ⟨f, hf, h⟩ := h.res
  obtain ⟨f, rfl⟩ : ∃ f', f = f' + 1 := ⟨f - 1, by omega⟩
  rw [← h]
  have hg : l.getD p 0 = l[p] := by simp [List.getD, hp]
  simp only [splitF, hg]
  rw [if_neg (by omega), if_pos hm]
theorem At.num {l : List Nat} {R : List Sec × Nat} {p u s e : Nat} {es : List Ent} (h : At l R p es) (hp : p < l.length) (hm : may (es.map fun e => e.1) (l[p] : Nat) = true) (hu : uRes (l.drop (p + 1)) 32 = (u, s, e)) (he : e ≠ 0) : R = (es.map (fun e => e.1), e) := by
  obtain ⟨f, hf, h⟩ := h.res
  obtain ⟨f, rfl⟩ : ∃ f', f = f' + 1 := ⟨f - 1, by omega⟩
  rw [← h]
  have hg : l.getD p 0 = l[p] := by simp [List.getD, hp]
  simp only [splitF, hg]
  rw [if_neg (by omega), if_neg (by rw [hm]; simp), hu, if_pos he]
theorem At.short {l : List Nat} {R : List Sec × Nat} {p u s : Nat} {es : List Ent} (h : At l R p es) (hp : p < l.length) (hm : may (es.map fun e => e.1) (l[p] : Nat) = true) (hu : uRes (l.drop (p + 1)) 32 = (u, s, 0)) (hl : l.length - (p + 1 + s) < u) : R = (es.map (fun e => e.1), 1) := by
  obtain ⟨f, hf, h⟩ := h.res
  obtain ⟨f, rfl⟩ : ∃ f', f = f' + 1 := ⟨f - 1, by omega⟩
  rw [← h]
  have hg : l.getD p 0 = l[p] := by simp [List.getD, hp]
  simp only [splitF, hg]
  rw [if_neg (by omega), if_neg (by rw [hm]; simp), hu]
  simp only [ne_eq, not_true_eq_false, if_false]
  rw [if_pos hl]
theorem At.next {l : List Nat} {R : List Sec × Nat} {p u s : Nat} {es : List Ent} (h : At l R p es) (hp : p < l.length) (hm : may (es.map fun e => e.1) (l[p] : Nat) = true) (hu : uRes (l.drop (p + 1)) 32 = (u, s, 0)) (hl : ¬ l.length - (p + 1 + s) < u) (A : Option Addr) (c : Nat) :
    At l R (p + 1 + s + u) (es ++ [((⟨(l[p] : Nat), (l.drop (p + 1 + s)).take u⟩ : Sec), A, c)]) := by
  have hi := uRes_in hu
  rw [List.length_drop] at hi
  have hfew := h.few
  have hids := h.ids
  obtain ⟨f, hf, h⟩ := h.res
  obtain ⟨f, rfl⟩ : ∃ f', f = f' + 1 := ⟨f - 1, by omega⟩
  have hg : l.getD p 0 = l[p] := by simp [List.getD, hp]
  rw [splitF_step l f p u s _ hp (by rw [hg]; exact hm) hu hl, hg] at h
  refine ⟨by omega, by rw [List.length_append]; simp; omega, fun s' hs => ?_, f, by omega, ?_⟩
  · rw [List.map_append] at hs
    rcases List.mem_append.1 hs with hs | hs
    · exact hids s' hs
    · have : s' = ⟨(l[p] : Nat), (l.drop (p + 1 + s)).take u⟩ := by simpa using hs
      rw [this]
      exact may_range hm
  · rw [List.map_append]; exact h
theorem At.start (l : List Nat) (h : headErr l = 0) (hl : ¬ 65536 < l.length) (h8 : 8 ≤ l.length) : At l (splitRes l) 8 [] :=
  ⟨h8, by simp, by simp, l.length + 1, by omega, by unfold splitRes; rw [if_neg hl, h]; simp⟩
theorem uRes_lt32 {l : List Nat} {u s : Nat} (h : uRes l 32 = (u, s, 0)) : u < 4294967296 := by
  have := uRes_32 l (by rw [h])
  rw [h] at this
  exact this.1
theorem split_sums (p s u n s1 q1 d x : Nat) (hp : p < n) (hn : (n : Int) ≤ 65536) (hs : 1 ≤ s ∧ s ≤ n - (p + 1)) (hu : u < 4294967296) (e1 : 1 + s = s1) (e2 : p + 1 + s = q1) (e3 : n - q1 = d) (e4 : q1 + u = x) :
    wrap64 (1 + (s : Int)) = (s1 : Int) ∧ wrap64 ((p : Int) + (s1 : Int)) = (q1 : Int) ∧ wrap64 ((n : Int) - (q1 : Int)) = (d : Int) ∧ IntKind.u64.wrap (d : Int) = (d : Int) ∧ wrap64 (u : Int) = (u : Int) ∧ wrap64 ((q1 : Int) + (u : Int)) = (x : Int) := by
  have h1 : 1 + (s : Int) = (s1 : Int) := by omega
  have h2 : (p : Int) + (s1 : Int) = (q1 : Int) := by omega
  have h3 : (n : Int) - (q1 : Int) = (d : Int) := by omega
  have h7 : (q1 : Int) + (u : Int) = (x : Int) := by omega
  rw [h1, h2, h3, h7]
  have h5 : (s1 : Int) ≤ 65536 := by omega
  have h6 : (d : Int) ≤ 65536 := by omega
  have h4 : (q1 : Int) ≤ 65536 := by omega
  have h8 : (x : Int) ≤ 4295032832 := by omega
  have h9 : (u : Int) ≤ 4294967296 := by omega
  exact ⟨IntWalk.wrap64_in _ (by omega), IntWalk.wrap64_in _ (by omega), IntWalk.wrap64_in _ (by omega), IntWalk.u64_in _ (by omega), IntWalk.wrap64_in _ (by omega), IntWalk.wrap64_in _ (by omega)⟩
theorem below_lit {w W : World} {B : Nat} (h : Below B w W) (hB : B ≤ W.heap.size) (o : Obj) : Below B w (W.alloc o) := h.alloc hB o
set_option maxHeartbeats 4000000 in
set_option maxRecDepth 100000 in
theorem rsplit_short (A : Option Addr) (l : List Nat) (c : Nat) (w : World) (hs : Slc w w.heap.size A c l) (hl : (l.length : Int) ≤ 65536) : Calls Try.prog 9 #[.slice A l.length c] w fun e w' => SplitIs w (splitRes l) (splitRes l).1.length e w' := by
  have HS := Lib.hid hs
  have HL := Lib.hid hl
  have HR : Hid (headErr l ≠ 0 → splitRes l = ([], headErr l)) := Lib.hid fun h => by unfold splitRes; rw [if_neg (by omega), if_pos h]
  have H0 : Hid (headErr l = 0 → 8 ≤ l.length → At l (splitRes l) 8 []) := Lib.hid fun h h8 => At.start l h (by omega) h8
  generalize splitRes l = R at *
  clear hs
  go_enter Try.func9, Try.ntmps9
  go_wp2_with fail
  go_loopw [5] (fun x wr => ∃ (j q : Nat), j ≤ 8 ∧ j ≤ l.length ∧ x = .int .i64 (j : Int) ∧ wr = w.drewN q ∧ Hid (l.take j = headB.take j)) (fun i _ => 8 - (intOf i).toNat)
  case atStart => exact ⟨0, 0, by omega, by omega, by go_num, rfl, Lib.hid (by simp)⟩
  case round =>
    obtain ⟨j, q, hj8, hj, rfl, rfl, HT⟩ := hrel
    by_cases hj2 : j < 8
    · have hj2i : (j : Int) < 8 := by omega
      by_cases hjl : j < l.length
      · have hne : ((j : Int) == (l.length : Int)) = false := by simp; omega
        have hjli : (j : Int) < (l.length : Int) := by omega
        obtain ⟨b, off, rfl, hb, hc⟩ := HS.out.bytes.2 (by omega)
        have q0 : (w.drewN q).cell? ⟨b, off + j, none⟩ = some (.int .u8 (l[j] : Nat)) := hc j hjl
        have HW : Hid (∀ m, ∃ k, (w.drewN q).drewN m = w.drewN k) := Lib.hid fun m => ⟨_, World.drewN_drewN _ _ _⟩
        have HAT := headS_at j hj2
        by_cases hy : l[j] = headB.getD j 0
        · have HN := Lib.hid (head_next l j HT.out hj2 hjl hy)
          have hb2 : ((l[j] : Int) != ((({ data := #[0, 97, 115, 109, 1, 0, 0, 0] } : ByteArray)[j]'hj2).toNat : Int)) = false := by
            have : (({ data := #[0, 97, 115, 109, 1, 0, 0, 0] } : ByteArray)[j]'hj2).toNat = headB.getD j 0 := HAT
            rw [this, hy]; simp
          clear hc HAT hy HT HR H0
          generalize l[j] = y at *
          generalize w.drewN q = W at *
          go_wp2_with fail
          go_quiet (fail)
          go_wp2
          go_roundw
          case rel =>
            obtain ⟨k, hk⟩ := HW.out nq
            exact ⟨j + 1, k, by omega, by omega, by go_num, hk, HN⟩
          case measure => simp [intOf]; omega
        · have HN := Lib.hid (head_bad l j hj2 hjl hy)
          have hb2 : ((l[j] : Int) != ((({ data := #[0, 97, 115, 109, 1, 0, 0, 0] } : ByteArray)[j]'hj2).toNat : Int)) = true := by
            have : (({ data := #[0, 97, 115, 109, 1, 0, 0, 0] } : ByteArray)[j]'hj2).toNat = headB.getD j 0 := HAT
            rw [this]; exact bne_iff_ne.2 fun e => hy (by omega)
          have HE : Hid (R = ([], 2)) := Lib.hid (by rw [HR.out (by rw [HN.out]; simp), HN.out])
          clear hc HAT hy HT HR H0
          generalize l[j] = y at *
          generalize w.drewN q = W at *
          go_wp2_with fail
          go_quiet (fail)
          go_wp2
          go_ret2
          rw [HE.out]
          obtain ⟨k, hk⟩ := HW.out nq
          rw [hk]
          exact splitIs_nil _ _ _ (below_drewN (Below.refl _ _) _)
      · obtain rfl : j = l.length := by omega
        have HE : Hid (R = ([], 1)) := Lib.hid (by
          have := head_stop l l.length HT.out hj2 rfl
          rw [HR.out (by rw [this]; simp), this])
        clear HT HR H0
        go_wp2
        go_ret2
        rw [HE.out]
        exact splitIs_nil _ _ _ (below_drewN (Below.refl _ _) _)
    · obtain rfl : j = 8 := by omega
      have HA := Lib.hid (H0.out (head_ok l (by have := HT.out; exact this) hj) hj)
      have HLS := Lib.hid (ls_nil w (w.drewN q) 36 none (below_drewN (Below.refl _ _) _) (by simp))
      clear HT HR H0
      generalize w.drewN q = W0 at *
      go_wp2_with fail
      go_loopw [6, 7] (fun x6 x7 wr => ∃ (p : Nat) (lv : Value) (es : List Ent), x6 = lv ∧ x7 = .int .i64 (p : Int) ∧ LS w wr 36 none lv es ∧ Hid (At l R p es)) (fun _ i _ => l.length - (intOf i).toNat)
      case atStart => exact ⟨8, _, [], rfl, by go_num, HLS.out, HA⟩
      case round =>
        obtain ⟨p, lv, es, rfl, rfl, hls, HAT⟩ := hrel
        clear HA HLS
        obtain ⟨A1, c1, hlv, hsli⟩ := hls.sli
        have hp := HAT.out.le
        by_cases hpl : p = l.length
        · subst hpl
          have hpi : ¬ (l.length : Int) < (l.length : Int) := by omega
          have HF := Lib.hid (splitIs_of HAT.out.done hsli hls.below)
          subst hlv
          clear HAT hls hsli
          go_wp2
          go_ret2
          exact HF.out
        · have hpi : (p : Int) < (l.length : Int) := by omega
          have hpn : p < l.length := by omega
          obtain ⟨b, off, rfl, hb, hc⟩ := HS.out.bytes.2 (by omega)
          have q0 : wr.cell? ⟨b, off + p, none⟩ = some (.int .u8 (l[p] : Nat)) := (hls.below.cell (p := ⟨b, off + p, none⟩) hb).trans (hc p hpn)
          have hy := HS.out.bytes.1 _ (List.getElem_mem hpn)
          have hyi : ((l[p] : Nat) : Int) < 256 := by omega
          have hyw : wrap64 ((l[p] : Nat) : Int) = (l[p] : Nat) := IntWalk.wrap64_in _ (by omega)
          have HM := Lib.hid (rmay_any A1 (es.map fun e => e.1) c1 wr.heap.size (l[p] : Nat) wr hsli.secs (by have := HAT.out.few; simp; omega) HAT.out.ids)
          rw [List.length_map] at HM
          obtain ⟨p1, hp1e⟩ : ∃ p1, p + 1 = p1 := ⟨_, rfl⟩
          have hp1 : (p : Int) + 1 = (p1 : Int) := by omega
          have hp1l : p1 ≤ l.length := by omega
          by_cases hm : may (es.map fun e => e.1) (l[p] : Nat) = true
          · have HMT := Lib.hid hm
            rw [hm] at HM
            obtain ⟨A2, c2, HSL, hB⟩ := slice_at (some ⟨b, off, none⟩) l c p1 w.heap.size w HS.out hp1l
            rw [← hp1] at HSL
            have hs2 := hB wr (HS.out.below hls.below)
            have hU := rU_any A2 (l.drop p1) c2 32 wr (hs2.bytes.more hls.below.size) (by omega) (by omega)
            obtain ⟨u, s, e, hu⟩ : ∃ u s e, uRes (l.drop p1) 32 = (u, s, e) := ⟨_, _, _, rfl⟩
            rw [hu, List.length_drop, show ((32 : Nat) : Int) = 32 from rfl] at hU
            have HU := Lib.hid hU
            have hu1 : uRes (l.drop (p + 1)) 32 = (u, s, e) := by rw [hp1e]; exact hu
            clear hU hu hs2 hB hm hp1
            by_cases he : e = 0
            · subst he
              have hi := uRes_in hu1
              rw [List.length_drop] at hi
              have hu32 := uRes_lt32 hu1
              obtain ⟨s1, hs1e⟩ : ∃ s1, 1 + s = s1 := ⟨_, rfl⟩
              obtain ⟨q1, hq1e⟩ : ∃ q1, p + 1 + s = q1 := ⟨_, rfl⟩
              obtain ⟨d, hde⟩ : ∃ d, l.length - q1 = d := ⟨_, rfl⟩
              obtain ⟨e1, he1⟩ : ∃ e1, q1 + u = e1 := ⟨_, rfl⟩
              have HB := Lib.hid (split_sums p s u l.length s1 q1 d e1 hpn hl hi hu32 hs1e hq1e hde he1)
              have HSH : Hid (d < u → ∀ W, Below wr.heap.size wr W → SplitIs w R R.1.length (.returned (.tuple #[.slice A1 es.length c1, .int .i64 1])) W) := Lib.hid fun hlt W hW => splitIs_of (e := 1) (HAT.out.short hpn HMT.out hu1 (by rw [hq1e, hde]; exact hlt)) ((hsli.below hW).more hW.size) (hls.below.trans (hW.mono hls.below.size))
              have HNX : Hid (¬ d < u → ∀ A c, At l R e1 (es ++ [((⟨(l[p] : Nat), (l.drop q1).take u⟩ : Sec), A, c)])) := Lib.hid fun hlt A c => by
                have := HAT.out.next hpn HMT.out hu1 (by rw [hq1e, hde]; exact hlt) A c
                rwa [hq1e, he1] at this
              have HLS := Lib.hid hls
              have HFW : Hid (es.length < l.length) := Lib.hid (by have := HAT.out.few; omega)
              have HBY := Lib.hid HS.out.bytes.1
              have HHD : Hid (p < q1 ∧ q1 ≤ l.length ∧ l.length - q1 = d ∧ q1 + u = e1) := Lib.hid ⟨by omega, by omega, hde, he1⟩
              subst hlv
              clear hc HAT hls hsli hu1 HMT hp1e hi hs1e hq1e hde he1 hu32
              generalize l[p] = y at *
              go_wp2_with fail
              refine HM.out.mono ?_
              rintro e2 w1 ⟨rfl, rfl⟩
              go_wp2_with fail
              refine HU.out.mono ?_
              rintro e2 w1 ⟨rfl, hb1⟩
              go_upto_if 68 with fail
              obtain ⟨hs1, hq1, hd, hdw, huw, heq⟩ := HB.out
              simp only [hs1, hq1, hd, hdw]
              clear hs1 hq1 hd hdw HB HM HU HSL q0 hy hyi hyw
              by_cases hlt : d < u
              · have hlti : (d : Int) < (u : Int) := by omega
                have HF := Lib.hid (HSH.out hlt _ hb1)
                clear HSH HNX HLS
                go_wp2
                go_ret2
                exact HF.out
              · have hlti : ¬ (d : Int) < (u : Int) := by omega
                have HNX2 := Lib.hid (HNX.out hlt)
                obtain ⟨h1, h2, h3, h4⟩ := HHD.out
                have hL1 := HLS.out.keep hb1
                obtain ⟨A3, c3, HSL3, hB3⟩ := slice_to (some ⟨b, off, none⟩) l c q1 e1 w.heap.size w HS.out (by omega) (by omega)
                have hs3 := hB3 w1 (HS.out.below hL1.below)
                have hm : e1 ≤ l.length ∧ p < e1 := by omega
                rw [show e1 - q1 = u from by omega] at hs3 HSL3
                have hsl : ((l.drop q1).take u).length = u := by simp; omega
                have hC := gives_b (copy_any A3 ((l.drop q1).take u) c3 w1 (hs3.bytes.more hL1.below.size) hs3.nil (by omega)) hs3.bytes.1 hsl
                generalize (l.drop q1).take u = sg at *
                rw [hsl] at hC
                have HC := Lib.hid hC
                have HL1 := Lib.hid hL1
                have HSG := Lib.hid hsl
                have HMM := Lib.hid hm
                have HXX := Lib.hid (And.intro huw heq)
                clear hC hL1 hsl hm hs3 hB3 h1 h2 h3 h4 HNX HSH HLS HHD hlt
                go_wp2_with fail
                refine HC.out.mono ?_
                rintro en w2 ⟨A4, c4, rfl, hown4, hby4, hn4, hr4, hb4⟩
                have hA : Below w2.heap.size w2 (w2.alloc (.cells #[.int .i64 (y : Int), .slice A4 u c4] 36)) := (Below.refl _ _).alloc (Nat.le_refl _) _
                have hL3 := (HL1.out.keep hb4).keep hA
                have hrow := rowE_lit w2 36 [((⟨(y : Int), sg⟩ : Sec), A4, c4)] #[.int .i64 (y : Int), .slice A4 u c4] 1 (by simp [els, el, HSG.out]) rfl (by simp [maxLen])
                have hlab : lab (w2.alloc (.cells #[.int .i64 (y : Int), .slice A4 u c4] 36)) (w2.alloc (.cells #[.int .i64 (y : Int), .slice A4 u c4] 36)).heap.size ((⟨(y : Int), sg⟩ : Sec), A4, c4) := ⟨(hby4.below hA).more hA.size, by show sg.length ≤ c4; rw [HSG.out]; exact hr4, hn4⟩
                have hoff : OffB (Value.slice A1 es.length c1).ownBlock ((⟨(y : Int), sg⟩ : Sec), A4, c4) := by
                  intro _ a ha e2
                  have h1 := HL1.out.own.lt _ e2
                  simp only at ha
                  subst ha
                  have h2 := (World.ownsRow.lt hown4 a.block rfl).1
                  omega
                have HN2 := Lib.hid (And.intro hL3 (And.intro hlab hoff))
                have HROW := Lib.hid hrow
                have hown := hL3.own
                have hbase := hL3.below.size
                have hes : (es ++ [((⟨(y : Int), sg⟩ : Sec), A4, c4)]).length = es.length + 1 := by rw [List.length_append]; rfl
                have HES := Lib.hid hes
                have hk : es.length + 1 ≤ 1000000 := by have := HFW.out; have := HL.out; omega
                clear hA hL3 hrow hlab hoff hes hown4 hby4 hn4 hr4 hb4 HSG HSL3 HC
                go_wp2_with (at_builtin; refine app_sec tyR rfl (.tmp 70) (.tmp 81) rfl w.heap.size _ es rfl hown w2.heap.size 0 [((⟨(y : Int), sg⟩ : Sec), A4, c4)] 1 1 _ (es.length + 1) rfl rfl HROW.out HES.out hk hbase ?_; intro A6 c6 w6 hown6 hg6 hob6)
                obtain ⟨n1, n2, n3⟩ := HN2.out
                have hls6 := n1.more n2 n3 (by simp) hown6 hg6 hob6
                obtain ⟨m1, m2⟩ := HMM.out
                simp only [heq]
                clear heq huw
                go_roundw
                case rel => (repeat apply Exists.intro); exact ⟨⟨e1, _, _, rfl, rfl, hls6, Lib.hid (HNX2.out A4 c4)⟩, rfl⟩
                case measure => simp [intOf]; omega
            · have hne : ((e : Int) != 0) = true := by simp; omega
              have HE := Lib.hid (HAT.out.num hpn HMT.out hu1 he)
              have HF : Hid (∀ W, Below wr.heap.size wr W → SplitIs w R R.1.length (.returned (.tuple #[.slice A1 es.length c1, .int .i64 (e : Int)])) W) := Lib.hid fun W hW => splitIs_of HE.out ((hsli.below hW).more hW.size) (hls.below.trans (hW.mono hls.below.size))
              subst hlv
              clear hc HAT hls hsli hu1 HE HMT hp1e he
              generalize l[p] = y at *
              go_wp2_with fail
              refine HM.out.mono ?_
              rintro e1 w1 ⟨rfl, rfl⟩
              go_wp2_with fail
              refine HU.out.mono ?_
              rintro e1 w1 ⟨rfl, hb1⟩
              go_wp2
              go_ret2
              exact HF.out _ hb1
          · have hm2 : may (es.map fun e => e.1) (l[p] : Nat) = false := by simpa using hm
            rw [hm2] at HM
            have HF := Lib.hid (splitIs_of (HAT.out.bad hpn hm2) hsli hls.below)
            subst hlv
            clear hc HAT hls hsli hm hm2
            generalize l[p] = y at *
            go_wp2_with fail
            refine HM.out.mono ?_
            rintro e w1 ⟨rfl, rfl⟩
            go_wp2
            go_ret2
            exact HF.out
theorem rsplit_any (A : Option Addr) (l : List Nat) (c : Nat) (w : World) (hs : Slc w w.heap.size A c l) : Calls Try.prog 9 #[.slice A l.length c] w fun e w' => SplitIs w (splitRes l) (splitRes l).1.length e w' := by
  by_cases h : 65536 < l.length
  · have hr : splitRes l = ([], 4) := by unfold splitRes; rw [if_pos h]
    rw [hr]
    exact rsplit_long A l c w (by omega)
  · exact rsplit_short A l c w hs (by omega)
end Go.Proofs.Ytelcoeeijkainaa.Sec
