/-
  StoLaysLaw: trammellaw13.InstLays: true. Conditions: a store whose slices lead to what they say, with their room. (Written by wip/tools/genstolays.py.)
-/
import Derived.Test.YtdcolpmmojiffaaQStoRPut
import Derived.Test.YtdcolpmmojiffaaQStoRGrow
import Derived.Test.YtdcolpmmojiffaaQStoRLay
import Derived.Test.YtdcolpmmojiffaaQStoCopy
import Derived.Test.YtdcolpmmojiffaaQStoAwake
import Derived.Test.YtdcolpmmojiffaaQStoSmallA
namespace Go.Proofs.Ytdcolpmmojiffaa.Sto
open Go.RowKit Leb Typ

structure LW (w V : World) (nm : Nat) (p pm : PSt) (g : GSt) : Prop where
  b : Below w.heap.size w V
  s : BoxS V w.heap.size p g
  m : BoxS V nm pm g
  o : w.heap.size < nm
  fm : StF V nm pm g
theorem LW.keep {w V V' : World} {nm : Nat} {p pm : PSt} {g : GSt} (h : LW w V nm p pm g) (hb : Below V.heap.size V V') : LW w V' nm p pm g :=
  ⟨h.b.trans (hb.mono h.b.size), h.s.keep hb h.s.lt, h.m.keep hb h.m.lt, h.o, h.fm.below (hb.mono (Nat.le_of_lt h.m.lt))⟩
theorem LW.put {w V : World} {nm n : Nat} {p pm : PSt} {g : GSt} (h : LW w V nm p pm g) (p' : PSt) (g' : GSt) (hn : nm < n) : LW w (putS V n p' g') nm p pm g :=
  have ho := h.o
  ⟨below_put h.b p' g' (by omega), box_put h.s p' g' (by omega), box_put h.m p' g' (by omega), h.o, h.fm.below (below_put (Below.refl nm V) p' g' (by omega))⟩
theorem layG_fits {g : GSt} (h : g.tiny) (f : List Int) (a fr n : Nat) : (layG g f a fr n).1.fits := by
  unfold GSt.tiny at h
  unfold layG
  split
  · rename_i h1
    have := overL_length (t := g.tab) (f := f) h1.1 h1.2
    unfold GSt.fits
    simp only
    omega
  · unfold GSt.fits; simp [zeroG]
theorem putG_fits {g : GSt} (h : g.tiny) (b : List Nat) (a fr n : Nat) : (putG g b a fr n).1.fits := by
  unfold GSt.tiny at h
  unfold putG
  split
  · rename_i h1
    have := overL_length (t := g.mem) (f := b) h1.1 h1.2
    unfold GSt.fits
    simp only
    omega
  · unfold GSt.fits; simp [zeroG]
theorem growG_fits {g : GSt} (h : g.tiny) (n : Nat) (ok : Bool) : (growG g n ok).1.fits := by
  unfold GSt.tiny at h
  unfold growG
  split
  · unfold GSt.fits; simp only; omega
  · rename_i h1
    unfold GSt.fits
    simp only [List.length_append, List.length_replicate]
    omega
set_option maxRecDepth 100000 in
set_option maxHeartbeats 60000000 in
theorem lays_law (p : PSt) (g : GSt) (F : Option Addr) (f : List Int) (cf : Nat) (A : Option Addr) (b : List Nat) (cb a fr n : Nat) (ok : Bool) (w : World) (hst : StF w w.heap.size p g) (hf : Ints w w.heap.size F f) (hfr : f.length ≤ cf) (hf0 : F = none → cf = 0) (hb : Slc w w.heap.size A cb b) (ha : a ≤ 18446744073709551615) (hfm : fr ≤ 18446744073709551615) (hn : n ≤ 18446744073709551615) :
    Calls Try.prog 3 #[.agg #[.slice p.A0 g.mem.length p.c0, .int .i64 g.cap, .slice p.A2 g.tab.length p.c2, .slice p.A3 g.glo.length p.c3, .slice p.A4 g.els.length p.c4, .slice p.A5 g.dat.length p.c5], .slice F f.length cf, .slice A b.length cb, .int .u64 (a : Int), .int .u64 (fr : Int), .int .u64 (n : Int), .bool ok] w (Ret w (.bool true)) := by
  have HAW := Lib.hid (awake_ct w)
  have HSM : Hid (∀ x, smallA g = x → CT w 6 #[.agg #[.slice p.A0 g.mem.length p.c0, .int .i64 g.cap, .slice p.A2 g.tab.length p.c2, .slice p.A3 g.glo.length p.c3, .slice p.A4 g.els.length p.c4, .slice p.A5 g.dat.length p.c5]] (.bool x)) := Lib.hid fun x hx V _ => by subst hx; exact smallA_any p g V
  have HST := Lib.hid hst
  have HFF := Lib.hid (And.intro hf (And.intro hfr hf0))
  have HB := Lib.hid hb
  have HAN := Lib.hid (And.intro ha (And.intro hfm hn))
  clear hst hf hfr hf0 hb ha hfm hn
  go_enter Try.func3, Try.ntmps3
  go_upto_region 1 with fail
  refine (show ∀ U, (Below w.heap.size w U ∧ BoxS U w.heap.size p g) → Code.wp _ _ _ _ U from fun V0 hF => ?_) _ ?_
  rotate_left
  · exact ⟨(Below.refl _ _).alloc (Nat.le_refl _) _, boxs_new w p g⟩
  have HD := Lib.hid hF.1
  have HX := Lib.hid hF.2
  clear hF
  obtain ⟨k0, k1, k2, k3, k4, k5⟩ := HX.out.cells
  go_wp2_with fail
  refine (HAW.out.go HD.out).mono ?_
  rintro en V1 ⟨rfl, hb⟩
  replace HD := Lib.hid (HD.out.trans (hb.mono HD.out.size))
  replace HX := Lib.hid (HX.out.keep hb HX.out.lt)
  clear hb k0 k1 k2 k3 k4 k5 HAW
  obtain ⟨k0, k1, k2, k3, k4, k5⟩ := HX.out.cells
  cases hsm : smallA g with
  | false =>
    have H1 := Lib.hid (HSM.out false hsm)
    go_wp2_with fail
    refine (H1.out.go HD.out).mono ?_
    rintro en V2 ⟨rfl, hb⟩
    replace HD := Lib.hid (HD.out.trans (hb.mono HD.out.size))
    go_wp2
    go_ret
    exact ⟨rfl, HD.out⟩
  | true =>
  have H1 := Lib.hid (HSM.out true hsm)
  have hsz := (smallA_iff g).1 hsm
  clear HSM hsm
  by_cases hf1 : f.length ≤ 100
  case neg =>
    have hf1' : ¬ (f.length : Int) ≤ 100 := by omega
    go_wp2_with fail
    refine (H1.out.go HD.out).mono ?_
    rintro en V2 ⟨rfl, hb⟩
    replace HD := Lib.hid (HD.out.trans (hb.mono HD.out.size))
    go_wp2
    go_ret
    exact ⟨rfl, HD.out⟩
  case pos =>
  have hf1' : (f.length : Int) ≤ 100 := by omega
  by_cases hb1 : b.length ≤ 1000
  case neg =>
    have hb1' : ¬ (b.length : Int) ≤ 1000 := by omega
    go_wp2_with fail
    refine (H1.out.go HD.out).mono ?_
    rintro en V2 ⟨rfl, hb⟩
    replace HD := Lib.hid (HD.out.trans (hb.mono HD.out.size))
    go_wp2
    go_ret
    exact ⟨rfl, HD.out⟩
  case pos =>
  have hb1' : (b.length : Int) ≤ 1000 := by omega
  have HTI : Hid g.tiny := Lib.hid hsz
  have HFB := Lib.hid (And.intro hf1 hb1)
  have HG : Hid g.fits := Lib.hid (by unfold GSt.fits; omega)
  obtain ⟨g1, hg1⟩ : ∃ x, x = layG g f a fr n := ⟨_, rfl⟩
  obtain ⟨g1, r1⟩ := g1
  obtain ⟨g2, hg2⟩ : ∃ x, x = putG g b a fr n := ⟨_, rfl⟩
  obtain ⟨g2, r2⟩ := g2
  obtain ⟨g3, hg3⟩ : ∃ x, x = growG g n ok := ⟨_, rfl⟩
  obtain ⟨g3, m3⟩ := g3
  have HG1 : Hid g1.fits := Lib.hid (by have := layG_fits hsz f a fr n; rw [← hg1] at this; exact this)
  have HG2 : Hid g2.fits := Lib.hid (by have := putG_fits hsz b a fr n; rw [← hg2] at this; exact this)
  have HG3 : Hid g3.fits := Lib.hid (by have := growG_fits hsz n ok; rw [← hg3] at this; exact this)
  have HE1 := Lib.hid hg1
  have HE2 := Lib.hid hg2
  have HE3 := Lib.hid hg3
  clear hg1 hg2 hg3 hsz hf1 hb1
  have hr1 : (r1 != r1) = false := by simp
  have hr2 : (r2 != r2) = false := by simp
  go_wp2_with fail
  refine (H1.out.go HD.out).mono ?_
  rintro en V2 ⟨rfl, hb⟩
  replace HD := Lib.hid (HD.out.trans (hb.mono HD.out.size))
  replace HX := Lib.hid (HX.out.keep hb HX.out.lt)
  clear hb k0 k1 k2 k3 k4 k5 H1
  obtain ⟨k0, k1, k2, k3, k4, k5⟩ := HX.out.cells
  go_wp2_with fail
  refine (rcopy_any p g V2 (HST.out.upK HD.out) HTI.out).mono ?_
  rintro en V3 ⟨pm, rfl, hm, hb⟩
  have HM := Lib.hid hm
  have HD3 := Lib.hid (HD.out.trans (hb.mono HD.out.size))
  have HX3 := Lib.hid (HX.out.keep hb HX.out.lt)
  clear hm hb HD HX k0 k1 k2 k3 k4 k5
  simp only [vSt]
  go_upto_region 6 with fail
  refine (show ∀ U, LW w U V3.heap.size p pm g → Code.wp _ _ _ _ U from fun V4 hF => ?_) _ ?_
  rotate_left
  · exact ⟨HD3.out.trans (((Below.refl _ _).alloc (Nat.le_refl _) _).mono HD3.out.size), boxs_past HX3.out _, boxs_new V3 pm g, HX3.out.lt, HM.out.below ((Below.refl _ _).alloc (Nat.le_refl _) _)⟩
  have HW := Lib.hid hF
  clear hF HM HD3 HX3
  generalize V3.heap.size = nm at *
  obtain ⟨k0, k1, k2, k3, k4, k5⟩ := HW.out.m.cells
  have hc := lay_any pm g F f cf a fr n V4 (HW.out.fm.moreB (Nat.le_of_lt HW.out.m.lt)) HTI.out (lead_ints (((ints_lead HFF.out.1).below HW.out.b).more HW.out.b.size)) HFF.out.2.1 HFF.out.2.2 (by have := HFB.out.1; omega) HAN.out.1 HAN.out.2.1 HAN.out.2.2
  rw [← HE1.out] at hc
  have HC := Lib.hid hc
  clear hc
  go_wp2_with fail
  refine HC.out.mono ?_
  rintro en V5 ⟨px1, rfl, hq, hb⟩
  have HQ := Lib.hid hq
  have HW5 := Lib.hid (HW.out.keep hb)
  clear hq hb HC HW k0 k1 k2 k3 k4 k5
  simp only [vSt]
  go_upto_region 7 with fail
  refine (show ∀ U, LW w U nm p pm g ∧ BoxS U V5.heap.size px1 g1 ∧ nm < V5.heap.size ∧ FarF (fun b => b < V5.heap.size) U px1 g1 → Code.wp _ _ _ _ U from fun V6 hF => ?_) _ ?_
  rotate_left
  · exact ⟨HW5.out.keep ((Below.refl _ _).alloc (Nat.le_refl _) _), boxs_new V5 px1 g1, HW5.out.m.lt, FarF.of (HQ.out.stf.below ((Below.refl _ _).alloc (Nat.le_refl _) _)) (by simp) fun _ h => h⟩
  have HW := Lib.hid hF.1
  have HX := Lib.hid hF.2.1
  have HO1 := Lib.hid hF.2.2.1
  have HQ1 := Lib.hid hF.2.2.2
  clear hF HQ HW5
  generalize V5.heap.size = nx at *
  obtain ⟨k0, k1, k2, k3, k4, k5⟩ := HW.out.s.cells
  have hc := rlay_any w.heap.size p g F f cf a fr n V6 (HST.out.below HW.out.b) HW.out.b.size HTI.out (lead_ints (((ints_lead HFF.out.1).below HW.out.b).more HW.out.b.size)) HFF.out.2.1 HFF.out.2.2 (by have := HFB.out.1; omega) HAN.out.1 HAN.out.2.1 HAN.out.2.2
  rw [← HE1.out] at hc
  have HC := Lib.hid hc
  clear hc
  go_wp2_with fail
  refine HC.out.mono ?_
  rintro en V7 ⟨py1, rfl, hq, hb⟩
  have HQ := Lib.hid hq
  have HW5 := Lib.hid (HW.out.keep hb)
  have HX5 := Lib.hid (HX.out.keep hb HX.out.lt)
  have HQ5 := Lib.hid (HQ1.out.keep hb)
  clear hq hb HC HW HX HQ1 k0 k1 k2 k3 k4 k5
  simp only [vSt]
  go_upto_region 8 with fail
  refine (show ∀ U, LW w U nm p pm g ∧ BoxS U nx px1 g1 ∧ BoxS U V7.heap.size py1 g1 ∧ nx < V7.heap.size ∧ StF U U.heap.size px1 g1 ∧ StF U U.heap.size py1 g1 → Code.wp _ _ _ _ U from fun V8 hF => ?_) _ ?_
  rotate_left
  · exact ⟨HW5.out.keep ((Below.refl _ _).alloc (Nat.le_refl _) _), boxs_past HX5.out _, boxs_new V7 py1 g1, HX5.out.lt, (HQ5.out.keep ((Below.refl _ _).alloc (Nat.le_refl _) _)).stf, (HQ.out.keep ((Below.refl _ _).alloc (Nat.le_refl _) _)).stf⟩
  have HW := Lib.hid hF.1
  have HX := Lib.hid hF.2.1
  have HY := Lib.hid hF.2.2.1
  have HO2 := Lib.hid hF.2.2.2.1
  have HSX := Lib.hid hF.2.2.2.2.1
  have HSY := Lib.hid hF.2.2.2.2.2
  clear hF HQ HW5 HX5 HQ5
  generalize V7.heap.size = ny at *
  obtain ⟨k0, k1, k2, k3, k4, k5⟩ := HX.out.cells
  obtain ⟨l0, l1, l2, l3, l4, l5⟩ := HY.out.cells
  have hsg : sameB g1 g1 = true := (sameB_iff g1 g1).2 rfl
  have hc := rsame_any px1 py1 g1 g1 V8 HSX.out.l HSY.out.l HG1.out HG1.out
  rw [hsg] at hc
  have HC := Lib.hid hc
  clear hc hsg
  go_wp2_with fail
  refine HC.out.mono ?_
  rintro en V9 ⟨rfl, hb⟩
  replace HW := Lib.hid (HW.out.keep hb)
  replace HX := Lib.hid (HX.out.keep hb HX.out.lt)
  replace HY := Lib.hid (HY.out.keep hb HY.out.lt)
  clear hb HC HSX HSY k0 k1 k2 k3 k4 k5 l0 l1 l2 l3 l4 l5
  go_upto_region 10 with fail
  obtain ⟨k0, k1, k2, k3, k4, k5⟩ := HW.out.m.cells
  have hc := put_any pm g A b cb a fr n V9 (HW.out.fm.moreB (Nat.le_of_lt HW.out.m.lt)) HTI.out ((HB.out.below HW.out.b).more HW.out.b.size) HFB.out.2 HAN.out.1 HAN.out.2.1 HAN.out.2.2
  rw [← HE2.out] at hc
  have HC := Lib.hid hc
  clear hc
  go_wp2_with fail
  refine HC.out.mono ?_
  rintro en V10 ⟨px2, rfl, hq, hb⟩
  have HQ := Lib.hid (hq.imp (ok' := fun z => z ≠ nx ∧ z ≠ ny) fun z hz => by have h1 := HX.out.lt; have h2 := HY.out.lt; have h3 : V9.heap.size ≤ z := hz; omega)
  have HW5 := Lib.hid (HW.out.keep hb)
  have HX5 := Lib.hid (HX.out.keep hb HX.out.lt)
  have HY5 := Lib.hid (HY.out.keep hb HY.out.lt)
  clear hq hb HC HW HX HY k0 k1 k2 k3 k4 k5
  simp only [vSt]
  obtain ⟨k0, k1, k2, k3, k4, k5⟩ := HX5.out.cells
  have fr' := fun i => HX5.out.free i
  have f0 := fr' 0
  have f1 := fr' 1
  have f2 := fr' 2
  have f3 := fr' 3
  have f4 := fr' 4
  have f5 := fr' 5
  clear fr'
  go_upto_region 11 with fail
  clear k0 k1 k2 k3 k4 k5 f0 f1 f2 f3 f4 f5
  change Code.wp _ _ _ _ (putS V10 nx px2 g2)
  have HW := Lib.hid (HW5.out.put (n := nx) px2 g2 HO1.out)
  have HX := Lib.hid (HX5.out.put px2 g2)
  have HY := Lib.hid (box_put HY5.out (n := nx) px2 g2 (by have := HO2.out; omega))
  have HQ1 := Lib.hid (HQ.out.put (n := nx) px2 g2 (fun h => h.1 rfl))
  clear HW5 HX5 HY5 HQ
  generalize putS V10 nx px2 g2 = V11 at *
  obtain ⟨k0, k1, k2, k3, k4, k5⟩ := HW.out.s.cells
  have hc := rput_any w.heap.size p g A b cb a fr n V11 (HST.out.below HW.out.b) HW.out.b.size HTI.out ((HB.out.below HW.out.b).more HW.out.b.size) HFB.out.2 HAN.out.1 HAN.out.2.1 HAN.out.2.2
  rw [← HE2.out] at hc
  have HC := Lib.hid hc
  clear hc
  go_wp2_with fail
  refine HC.out.mono ?_
  rintro en V12 ⟨py2, rfl, hq, hb⟩
  have HQ := Lib.hid (hq.imp (ok' := fun z => z ≠ ny) fun z hz => by have h2 := HY.out.lt; have h4 := HW.out.o; have h5 := HO1.out; have h6 := HO2.out; have h3 : z < w.heap.size ∨ V11.heap.size ≤ z := hz; omega)
  have HW5 := Lib.hid (HW.out.keep hb)
  have HX5 := Lib.hid (HX.out.keep hb HX.out.lt)
  have HY5 := Lib.hid (HY.out.keep hb HY.out.lt)
  have HQ5 := Lib.hid (HQ1.out.keep hb)
  clear hq hb HC HW HX HY HQ1 k0 k1 k2 k3 k4 k5
  simp only [vSt]
  obtain ⟨k0, k1, k2, k3, k4, k5⟩ := HY5.out.cells
  have fr' := fun i => HY5.out.free i
  have f0 := fr' 0
  have f1 := fr' 1
  have f2 := fr' 2
  have f3 := fr' 3
  have f4 := fr' 4
  have f5 := fr' 5
  clear fr'
  go_upto_region 12 with fail
  clear k0 k1 k2 k3 k4 k5 f0 f1 f2 f3 f4 f5
  change Code.wp _ _ _ _ (putS V12 ny py2 g2)
  have HW := Lib.hid (HW5.out.put (n := ny) py2 g2 (by have := HO1.out; have := HO2.out; omega))
  have HX := Lib.hid (box_put HX5.out (n := ny) py2 g2 (by have := HO2.out; omega))
  have HY := Lib.hid (HY5.out.put py2 g2)
  have HSX := Lib.hid (HQ5.out.put (n := ny) py2 g2 (fun h => h.2 rfl)).stf
  have HSY := Lib.hid (HQ.out.put (n := ny) py2 g2 (fun h => h rfl)).stf
  clear HW5 HX5 HY5 HQ HQ5
  generalize putS V12 ny py2 g2 = V13 at *
  obtain ⟨k0, k1, k2, k3, k4, k5⟩ := HX.out.cells
  obtain ⟨l0, l1, l2, l3, l4, l5⟩ := HY.out.cells
  have hsg : sameB g2 g2 = true := (sameB_iff g2 g2).2 rfl
  have hc := rsame_any px2 py2 g2 g2 V13 HSX.out.l HSY.out.l HG2.out HG2.out
  rw [hsg] at hc
  have HC := Lib.hid hc
  clear hc hsg
  go_wp2_with fail
  refine HC.out.mono ?_
  rintro en V14 ⟨rfl, hb⟩
  replace HW := Lib.hid (HW.out.keep hb)
  replace HX := Lib.hid (HX.out.keep hb HX.out.lt)
  replace HY := Lib.hid (HY.out.keep hb HY.out.lt)
  clear hb HC HSX HSY k0 k1 k2 k3 k4 k5 l0 l1 l2 l3 l4 l5
  go_upto_region 14 with fail
  obtain ⟨k0, k1, k2, k3, k4, k5⟩ := HW.out.m.cells
  have hc := grow_any pm g n ok V14 (HW.out.fm.moreB (Nat.le_of_lt HW.out.m.lt)) HTI.out HAN.out.2.2
  rw [← HE3.out] at hc
  have HC := Lib.hid hc
  clear hc
  go_wp2_with fail
  refine HC.out.mono ?_
  rintro en V15 ⟨px3, rfl, hq, hb⟩
  have HQ := Lib.hid (hq.imp (ok' := fun z => z ≠ nx ∧ z ≠ ny) fun z hz => by have h1 := HX.out.lt; have h2 := HY.out.lt; have h3 : V14.heap.size ≤ z := hz; omega)
  have HW5 := Lib.hid (HW.out.keep hb)
  have HX5 := Lib.hid (HX.out.keep hb HX.out.lt)
  have HY5 := Lib.hid (HY.out.keep hb HY.out.lt)
  clear hq hb HC HW HX HY k0 k1 k2 k3 k4 k5
  simp only [vSt]
  obtain ⟨k0, k1, k2, k3, k4, k5⟩ := HX5.out.cells
  have fr' := fun i => HX5.out.free i
  have f0 := fr' 0
  have f1 := fr' 1
  have f2 := fr' 2
  have f3 := fr' 3
  have f4 := fr' 4
  have f5 := fr' 5
  clear fr'
  go_upto_region 15 with fail
  clear k0 k1 k2 k3 k4 k5 f0 f1 f2 f3 f4 f5
  change Code.wp _ _ _ _ (putS V15 nx px3 g3)
  have HW := Lib.hid (HW5.out.put (n := nx) px3 g3 HO1.out)
  have HX := Lib.hid (HX5.out.put px3 g3)
  have HY := Lib.hid (box_put HY5.out (n := nx) px3 g3 (by have := HO2.out; omega))
  have HQ1 := Lib.hid (HQ.out.put (n := nx) px3 g3 (fun h => h.1 rfl))
  clear HW5 HX5 HY5 HQ
  generalize putS V15 nx px3 g3 = V16 at *
  obtain ⟨k0, k1, k2, k3, k4, k5⟩ := HW.out.s.cells
  have hc := rgrow_any w.heap.size p g n ok V16 (HST.out.below HW.out.b) HW.out.b.size HTI.out HAN.out.2.2
  rw [← HE3.out] at hc
  have HC := Lib.hid hc
  clear hc
  go_wp2_with fail
  refine HC.out.mono ?_
  rintro en V17 ⟨py3, rfl, hq, hb⟩
  have HQ := Lib.hid (hq.imp (ok' := fun z => z ≠ ny) fun z hz => by have h2 := HY.out.lt; have h4 := HW.out.o; have h5 := HO1.out; have h6 := HO2.out; have h3 : z < w.heap.size ∨ V16.heap.size ≤ z := hz; omega)
  have HW5 := Lib.hid (HW.out.keep hb)
  have HX5 := Lib.hid (HX.out.keep hb HX.out.lt)
  have HY5 := Lib.hid (HY.out.keep hb HY.out.lt)
  have HQ5 := Lib.hid (HQ1.out.keep hb)
  clear hq hb HC HW HX HY HQ1 k0 k1 k2 k3 k4 k5
  simp only [vSt]
  obtain ⟨k0, k1, k2, k3, k4, k5⟩ := HY5.out.cells
  have fr' := fun i => HY5.out.free i
  have f0 := fr' 0
  have f1 := fr' 1
  have f2 := fr' 2
  have f3 := fr' 3
  have f4 := fr' 4
  have f5 := fr' 5
  clear fr'
  go_upto_region 16 with fail
  clear k0 k1 k2 k3 k4 k5 f0 f1 f2 f3 f4 f5
  change Code.wp _ _ _ _ (putS V17 ny py3 g3)
  have HW := Lib.hid (HW5.out.put (n := ny) py3 g3 (by have := HO1.out; have := HO2.out; omega))
  have HX := Lib.hid (box_put HX5.out (n := ny) py3 g3 (by have := HO2.out; omega))
  have HY := Lib.hid (HY5.out.put py3 g3)
  have HSX := Lib.hid (HQ5.out.put (n := ny) py3 g3 (fun h => h.2 rfl)).stf
  have HSY := Lib.hid (HQ.out.put (n := ny) py3 g3 (fun h => h rfl)).stf
  clear HW5 HX5 HY5 HQ HQ5
  generalize putS V17 ny py3 g3 = V18 at *
  obtain ⟨k0, k1, k2, k3, k4, k5⟩ := HX.out.cells
  obtain ⟨l0, l1, l2, l3, l4, l5⟩ := HY.out.cells
  have hc := rsame_any px3 py3 g3 g3 V18 HSX.out.l HSY.out.l HG3.out HG3.out
  rw [(sameB_iff g3 g3).2 rfl] at hc
  have HC := Lib.hid hc
  clear hc
  go_wp2_with fail
  refine HC.out.mono ?_
  rintro en V19 ⟨rfl, hb⟩
  replace HW := Lib.hid (HW.out.keep hb)
  clear hb HC HSX HSY HX HY k0 k1 k2 k3 k4 k5 l0 l1 l2 l3 l4 l5
  obtain ⟨k0, k1, k2, k3, k4, k5⟩ := HW.out.m.cells
  obtain ⟨l0, l1, l2, l3, l4, l5⟩ := HW.out.s.cells
  have hc := rsame_any pm p g g V19 (HW.out.fm.moreB (Nat.le_of_lt HW.out.m.lt)).l (HST.out.upK HW.out.b).l HG.out HG.out
  rw [(sameB_iff g g).2 rfl] at hc
  have HC := Lib.hid hc
  clear hc
  go_wp2_with fail
  refine HC.out.mono ?_
  rintro en V20 ⟨rfl, hb⟩
  replace HW := Lib.hid (HW.out.keep hb)
  clear hb HC k0 k1 k2 k3 k4 k5 l0 l1 l2 l3 l4 l5
  go_wp2
  go_ret
  exact ⟨rfl, HW.out.b⟩
end Go.Proofs.Ytdcolpmmojiffaa.Sto
