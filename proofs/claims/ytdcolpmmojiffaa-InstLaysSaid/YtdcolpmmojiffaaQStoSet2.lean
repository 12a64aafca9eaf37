/-
  StoSet2: inst.Setup of one module: a memory of one page, capped at three: the store that it gives. Conditions: none.
-/
import Derived.Test.YtdcolpmmojiffaaQStoSetup
import Derived.Test.YtdcolpmmojiffaaQCtxOf
namespace Go.Proofs.Ytdcolpmmojiffaa.Sto
open Go.RowKit Leb Typ
open _root_.Go.Proofs.Ytdcolpmmojiffaa.Mod _root_.Go.Proofs.Ytdcolpmmojiffaa.Cx

def oneMd : GMd := { noG with mems := [(1, true, 3)] }
def oneP (bm : Nat) : Pls := { noPls with A4 := some ⟨bm, 0, none⟩, c4 := 1 }
theorem oneMd_E : ofE oneMd = 0 := by decide
theorem oneMd_C : ofC oneMd = ⟨[], [], [], [], [(1, true, 3)], 0, 0, 0, 0, false⟩ := by unfold ofC; rw [if_pos oneMd_E]; rfl
theorem oneMd_L {w : World} {bm : Nat} (h : w.heap[bm]? = some oneL) : MdL w (fun _ => True) (fun _ => True) (oneP bm) oneMd := by
  refine ⟨lst_none _ _ _, lst_none _ _ _, lst_none _ _ _, lst_none _ _ _, ?_, lst_none _ _ _, lst_none _ _ _, lst_none _ _ _, lst_none _ _ _, lst_none _ _ _, lst_none _ _ _, lst_none _ _ _⟩
  refine ⟨fun _ => ⟨bm, 0, rfl, trivial, fun j hj => ⟨[.int .i64 1, .bool true, .int .i64 3], ?_, fun i hi => ?_⟩⟩, (fun e => by cases e), by simp [oneMd, oneP]⟩
  · have : j = 0 := by simpa [oneMd] using hj
    subst this
    exact limR_at.2 rfl
  · have : j = 0 := by simpa [oneMd] using hj
    subst this
    have h' : w.heap[bm]? = some (.cells #[.int .i64 1, .bool true, .int .i64 3] 44 (0, 0)) := h
    rw [blk_cell h']
    simp
theorem oneMd_S : Sm oneMd := by constructor <;> simp [oneMd, noG]
theorem of_one (bm : Nat) (w : World) (h : w.heap[bm]? = some oneL) : Calls Try.prog 24 #[oneM bm] w fun e w' => ∃ q : Plc, e = .returned (.tuple #[.agg #[.slice q.A0 0 q.d0, .slice q.A1 0 q.d1, .slice q.A2 0 q.d2, .slice q.A3 0 q.d3, .slice q.A4 1 q.d4, .int .i64 0, .int .i64 0, .int .i64 0, .int .i64 0, .bool false], .int .i64 0]) ∧ Below w.heap.size w w' := by
  refine (of_any oneMd (oneP bm) w (oneMd_L h) oneMd_S).mono ?_
  rintro en w' ⟨q, e, _, hb⟩
  rw [oneMd_E, oneMd_C] at e
  exact ⟨q, e, hb⟩
structure SG (w V : World) (bm : Nat) : Prop where
  b : Below w.heap.size w V
  m : V.heap[w.heap.size]? = some (.cells (oneM bm).cells 55 (0, 0))
  res : BoxS V (w.heap.size + 1) zeroP zeroG
  l : V.heap[bm]? = some oneL
  lt : bm < w.heap.size
theorem SG.keep {w V V' : World} {bm : Nat} (h : SG w V bm) (hb : Below V.heap.size V V') : SG w V' bm where
  b := h.b.trans (hb.mono h.b.size)
  m := (hb.block _ (by have := h.res.lt; omega)).trans h.m
  res := h.res.keep hb h.res.lt
  l := (hb.block _ (by have := h.lt; have := h.res.lt; omega)).trans h.l
  lt := h.lt
set_option maxRecDepth 100000 in
set_option maxHeartbeats 4000000 in
theorem setup_one (bm : Nat) (w : World) (hbm : w.heap[bm]? = some oneL) : Calls Try.prog 15 #[oneM bm, .slice none 0 0] w fun e w' => ∃ p', e = .returned (.tuple #[vSt p' oneG, .int .i64 0, .int .i64 0]) ∧ StF w' w'.heap.size p' oneG ∧ Below w.heap.size w w' := by
  have hlt : bm < w.heap.size := by
    rcases Nat.lt_or_ge bm w.heap.size with h1 | h1
    · exact h1
    · have : w.heap[bm]? = none := by simp [h1]
      rw [hbm] at this
      cases this
  have HBM := Lib.hid hbm
  have HLT := Lib.hid hlt
  clear hbm hlt
  go_enter Try.func15, Try.ntmps15
  go_upto_region 1 with fail
  refine (show ∀ U, SG w U bm → Code.wp _ _ _ _ U from fun V0 hF => ?_) _ ?_
  rotate_left
  · have e1 : (w.alloc (.cells (oneM bm).cells 55)).heap.size = w.heap.size + 1 := by simp
    have h2 := boxs_new (w.alloc (.cells (oneM bm).cells 55)) zeroP zeroG
    rw [e1] at h2
    refine ⟨((Below.refl _ _).alloc (Nat.le_refl _) _).alloc (by simp) _, ?_, h2, ?_, HLT.out⟩
    · exact (heap_alloc_old _ _ (by simp)).trans (heap_alloc_new w _)
    · exact (heap_alloc_old _ _ (by have := HLT.out; simp; omega)).trans ((heap_alloc_old _ _ HLT.out).trans HBM.out)
  have HG0 := Lib.hid hF
  clear hF
  obtain ⟨m0, m1, m2, m3, m4, m5, m6, m7, m8, m9, m10, m11⟩ := oneM_cells w.heap.size bm V0 HG0.out.m
  unfold oneM
  go_wp2_with fail
  refine (show Calls _ _ #[oneM bm] _ _ from (of_one bm V0 HG0.out.l).mono ?_)
  rintro en V1 ⟨q, rfl, hb⟩
  have HG1 := Lib.hid (HG0.out.keep hb)
  clear hb HG0 m0 m1 m2 m3 m4 m5 m6 m7 m8 m9 m10 m11
  obtain ⟨m0, m1, m2, m3, m4, m5, m6, m7, m8, m9, m10, m11⟩ := oneM_cells w.heap.size bm V1 HG1.out.m
  go_upto_region 4 with fail
  refine (show ∀ U, SG w U bm → Code.wp _ _ _ _ U from fun V2 hF => ?_) _ ?_
  rotate_left
  · exact HG1.out.keep ((Below.refl _ _).alloc (Nat.le_refl _) _)
  have HG2 := Lib.hid hF
  clear hF HG1 m0 m1 m2 m3 m4 m5 m6 m7 m8 m9 m10 m11
  obtain ⟨m0, m1, m2, m3, m4, m5, m6, m7, m8, m9, m10, m11⟩ := oneM_cells w.heap.size bm V2 HG2.out.m
  go_wp2_with fail
  refine (noFunctions_nil V2).mono ?_
  rintro en V ⟨rfl, rfl⟩
  rename World => V2
  go_wp2_with fail
  refine (equal_nil _ V2).mono ?_
  rintro en V ⟨rfl, rfl⟩
  rename World => V2
  go_wp2_with fail
  refine (show Calls _ _ #[oneM bm, _, _] _ _ from (begin_one bm V2 HG2.out.l).mono ?_)
  rintro en V3 ⟨A, c, rfl, hst, hb⟩
  have HB2 : Hid (w.heap.size + 1 < V2.heap.size) := Lib.hid HG2.out.res.lt
  have HST : Hid (OwnK kB V3 V2.heap.size (.slice A 65536 c) (List.replicate 65536 0)) := Lib.hid hst
  have HG3 := Lib.hid (HG2.out.keep hb)
  clear hst hb HG2 m0 m1 m2 m3 m4 m5 m6 m7 m8 m9 m10 m11
  simp only [vSt]
  go_upto_region 8 with fail
  refine (show ∀ U, SG w U bm ∧ BoxS U V3.heap.size { zeroP with A0 := A, c0 := c } oneG ∧ Below V3.heap.size V3 U → Code.wp _ _ _ _ U from fun V4 hF => ?_) _ ?_
  rotate_left
  · exact ⟨HG3.out.keep ((Below.refl _ _).alloc (Nat.le_refl _) _), boxs_new V3 { zeroP with A0 := A, c0 := c } oneG, (Below.refl _ _).alloc (Nat.le_refl _) _⟩
  have HG4 := Lib.hid hF.1
  have HX4 := Lib.hid hF.2.1
  have HS4 := Lib.hid (HST.out.keep hF.2.2 (Nat.le_refl _))
  clear hF HG3 HST
  generalize V3.heap.size = ns at *
  obtain ⟨m0, m1, m2, m3, m4, m5, m6, m7, m8, m9, m10, m11⟩ := oneM_cells w.heap.size bm V4 HG4.out.m
  go_wp2_with fail
  refine (show Calls _ _ #[_, oneM bm] _ _ from (fill_none ns bm V4).mono ?_)
  rintro en V5 ⟨rfl, hb⟩
  have HG5 := Lib.hid (HG4.out.keep hb)
  have HX5 := Lib.hid (HX4.out.keep hb HX4.out.lt)
  have HS5 := Lib.hid (HS4.out.keep hb (Nat.le_refl _))
  clear hb HG4 HX4 HS4 m0 m1 m2 m3 m4 m5 m6 m7 m8 m9 m10 m11
  obtain ⟨k0, k1, k2, k3, k4, k5⟩ := HX5.out.cells
  obtain ⟨r0, r1, r2, r3, r4, r5⟩ := HG5.out.res.cells
  simp only [show zeroG.mem.length = 0 from rfl, show zeroG.tab.length = 0 from rfl, show zeroG.glo.length = 0 from rfl, show zeroG.els.length = 0 from rfl, show zeroG.dat.length = 0 from rfl, show zeroG.cap = 0 from rfl, show zeroP.A0 = none from rfl, show zeroP.c0 = 0 from rfl, show zeroP.A2 = none from rfl, show zeroP.c2 = 0 from rfl, show zeroP.A3 = none from rfl, show zeroP.c3 = 0 from rfl, show zeroP.A4 = none from rfl, show zeroP.c4 = 0 from rfl, show zeroP.A5 = none from rfl, show zeroP.c5 = 0 from rfl] at r0 r1 r2 r3 r4 r5
  have fr' := fun i => HG5.out.res.free i
  have f0 := fr' 0
  have f1 := fr' 1
  have f2 := fr' 2
  have f3 := fr' 3
  have f4 := fr' 4
  have f5 := fr' 5
  clear fr'
  go_wp2
  clear k0 k1 k2 k3 k4 k5 r0 r1 r2 r3 r4 r5 f0 f1 f2 f3 f4 f5
  change bodyPost _ _ _ _ _ (putS V5 (w.heap.size + 1) { zeroP with A0 := A, c0 := c } oneG)
  have HZ := Lib.hid (below_put (n := w.heap.size + 1) HG5.out.b { zeroP with A0 := A, c0 := c } oneG (by omega))
  have HX := Lib.hid (HG5.out.res.put { zeroP with A0 := A, c0 := c } oneG)
  have HO := Lib.hid (HS5.out.put (n := w.heap.size + 1) { zeroP with A0 := A, c0 := c } oneG HB2.out)
  clear HG5 HX5 HS5
  generalize putS V5 (w.heap.size + 1) { zeroP with A0 := A, c0 := c } oneG = V6 at *
  obtain ⟨k0, k1, k2, k3, k4, k5⟩ := HX.out.cells
  refine bodyPost_ret (v := .tuple #[vSt { zeroP with A0 := A, c0 := c } oneG, .int .i64 0, .int .i64 0]) (by simp [results, Try.results15, go_sem, vSt, k0, k1, k2, k3, k4, k5]) rfl ?_
  exact ⟨_, rfl, one_stf HO.out, HZ.out⟩
end Go.Proofs.Ytdcolpmmojiffaa.Sto
