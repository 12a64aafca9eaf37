/-
  StoAwake: trammellaw13.awake: true. No condition.
-/
import Derived.Test.YtdcolpmmojiffaaQStoSet2
namespace Go.Proofs.Ytdcolpmmojiffaa.Sto
open Go.RowKit Leb Typ

theorem oneG_len : oneG.mem.length = 65536 := List.length_replicate
theorem oneG_tiny : oneG.tiny := ⟨by rw [oneG_len]; omega, (show 0 ≤ 100 by omega), (show 0 ≤ 100 by omega), (show 0 ≤ 100 by omega), (show 0 ≤ 100 by omega)⟩
theorem grow_2 : ∃ g2, growG oneG 2 true = (g2, 1) ∧ g2.mem.length = 196608 := by
  refine ⟨{ oneG with mem := oneG.mem ++ List.replicate 131072 0 }, ?_, ?_⟩
  · unfold growG
    rw [oneG_len]
    rw [if_neg (by show ¬ (true = false ∨ 4 < 2 ∨ (3 : Int) < ((65536 / 65536 + 2 : Nat) : Int) ∨ 4 < 65536 / 65536 + 2); decide)]
  · show (oneG.mem ++ List.replicate 131072 0).length = 196608
    rw [List.length_append, oneG_len, List.length_replicate]
theorem grow_3 : growG oneG 3 true = (oneG, 4294967295) := by
  unfold growG
  rw [oneG_len]
  rw [if_pos (by show true = false ∨ 4 < 3 ∨ (3 : Int) < ((65536 / 65536 + 3 : Nat) : Int) ∨ 4 < 65536 / 65536 + 3; decide)]
theorem one_cells {V : World} {b : Nat} {p : PSt} (h : BoxS V b p oneG) : V.cell? ⟨b, 0, none⟩ = some (.slice p.A0 65536 p.c0) ∧ V.cell? ⟨b, 1, none⟩ = some (.int .i64 3) ∧ V.cell? ⟨b, 2, none⟩ = some (.slice p.A2 0 p.c2) ∧ V.cell? ⟨b, 3, none⟩ = some (.slice p.A3 0 p.c3) ∧ V.cell? ⟨b, 4, none⟩ = some (.slice p.A4 0 p.c4) ∧ V.cell? ⟨b, 5, none⟩ = some (.slice p.A5 0 p.c5) := by
  have h' := h.cells
  rw [oneG_len] at h'
  exact h'
set_option maxRecDepth 100000 in
set_option maxHeartbeats 4000000 in
theorem awake_any (w : World) : Calls Try.prog 5 #[] w fun e w' => e = .returned (.bool true) ∧ Below w.heap.size w w' := by
  obtain ⟨g2, hg2, hl2⟩ := grow_2
  have HG2 := Lib.hid hg2
  have HL2 := Lib.hid hl2
  clear hg2 hl2
  obtain ⟨g1, hg1⟩ : ∃ g1, g1 = oneG := ⟨_, rfl⟩
  have HSE : Hid (∀ V : World, V.heap[w.heap.size]? = some oneL → Calls Try.prog 15 #[oneM w.heap.size, .slice none 0 0] V fun e w' => ∃ p' : PSt, e = .returned (.tuple #[.agg #[.slice p'.A0 65536 p'.c0, .int .i64 3, .slice p'.A2 0 p'.c2, .slice p'.A3 0 p'.c3, .slice p'.A4 0 p'.c4, .slice p'.A5 0 p'.c5], .int .i64 0, .int .i64 0]) ∧ StF w' w'.heap.size p' oneG ∧ Below V.heap.size V w') := Lib.hid fun V hV => by
    refine (setup_one w.heap.size V hV).mono ?_
    rintro en w' ⟨p', e, h1, h2⟩
    unfold vSt at e
    rw [oneG_len] at e
    exact ⟨p', e, h1, h2⟩
  have HR2 : Hid (∀ (V : World) (p : PSt), StF V V.heap.size p oneG → Calls Try.prog 13 #[.agg #[.slice p.A0 65536 p.c0, .int .i64 3, .slice p.A2 0 p.c2, .slice p.A3 0 p.c3, .slice p.A4 0 p.c4, .slice p.A5 0 p.c5], .int .u64 2, .bool true] V fun e w' => ∃ p' : PSt, e = .returned (.tuple #[.agg #[.slice p'.A0 196608 p'.c0, .int .i64 g2.cap, .slice p'.A2 g2.tab.length p'.c2, .slice p'.A3 g2.glo.length p'.c3, .slice p'.A4 g2.els.length p'.c4, .slice p'.A5 g2.dat.length p'.c5], .int .u64 1]) ∧ Below V.heap.size V w') := Lib.hid fun V p hV => by
    have h := grow_any p oneG 2 true V hV oneG_tiny (by omega)
    rw [HG2.out] at h
    unfold vSt at h
    rw [HL2.out, oneG_len] at h
    refine h.mono ?_
    rintro en w' ⟨p', e, h1, h2⟩
    exact ⟨p', e, h2⟩
  have HR3 : Hid (∀ (V : World) (p : PSt), StF V V.heap.size p oneG → Calls Try.prog 13 #[.agg #[.slice p.A0 65536 p.c0, .int .i64 3, .slice p.A2 0 p.c2, .slice p.A3 0 p.c3, .slice p.A4 0 p.c4, .slice p.A5 0 p.c5], .int .u64 3, .bool true] V fun e w' => ∃ p' : PSt, e = .returned (.tuple #[.agg #[.slice p'.A0 65536 p'.c0, .int .i64 3, .slice p'.A2 0 p'.c2, .slice p'.A3 0 p'.c3, .slice p'.A4 0 p'.c4, .slice p'.A5 0 p'.c5], .int .u64 4294967295]) ∧ Below V.heap.size V w') := Lib.hid fun V p hV => by
    have h := grow_any p oneG 3 true V hV oneG_tiny (by omega)
    rw [grow_3] at h
    unfold vSt at h
    rw [oneG_len] at h
    refine h.mono ?_
    rintro en w' ⟨p', e, h1, h2⟩
    exact ⟨p', e, h2⟩
  clear hg1 g1 HG2 HL2
  go_enter Try.func5, Try.ntmps5
  go_wp2_with fail
  refine (show Calls _ _ #[oneM w.heap.size, _] _ _ from (HSE.out _ (heap_alloc_new w _)).mono ?_)
  rintro en V1 ⟨p, rfl, hst, hb⟩
  have HST := Lib.hid hst
  have HB1 : Hid (Below w.heap.size w V1) := Lib.hid (((Below.refl _ _).alloc (Nat.le_refl _) _).trans (hb.mono (by simp)))
  clear hst hb HSE
  go_upto_region 2 with fail
  refine (show ∀ U, Below w.heap.size w U ∧ BoxS U V1.heap.size p oneG ∧ StF U U.heap.size p oneG → Code.wp _ _ _ _ U from fun V2 hF => ?_) _ ?_
  rotate_left
  · have hbx := boxs_new V1 p oneG
    rw [oneG_len] at hbx
    exact ⟨HB1.out.trans (((Below.refl _ _).alloc (Nat.le_refl _) _).mono HB1.out.size), hbx, HST.out.upK ((Below.refl _ _).alloc (Nat.le_refl _) _)⟩
  have HB2 := Lib.hid hF.1
  have HX2 := Lib.hid hF.2.1
  have HS2 := Lib.hid hF.2.2
  clear hF HB1 HST
  generalize V1.heap.size = n1 at *
  obtain ⟨k0, k1, k2, k3, k4, k5⟩ := one_cells HX2.out
  go_wp2_with fail
  refine (HR2.out V2 p HS2.out).mono ?_
  rintro en V3 ⟨p3, rfl, hb⟩
  have HB3 := Lib.hid (HB2.out.trans (hb.mono HB2.out.size))
  have HX3 := Lib.hid (HX2.out.keep hb HX2.out.lt)
  have HS3 := Lib.hid (HS2.out.upK hb)
  clear hb HB2 HX2 HS2 k0 k1 k2 k3 k4 k5 HR2
  go_upto_region 3 with fail
  refine (show ∀ U, Below w.heap.size w U ∧ BoxS U n1 p oneG ∧ StF U U.heap.size p oneG ∧ (V3.heap.size < U.heap.size ∧ U.cell? ⟨V3.heap.size, 0, none⟩ = some (.slice p3.A0 196608 p3.c0)) → Code.wp _ _ _ _ U from fun V4 hF => ?_) _ ?_
  rotate_left
  · exact ⟨HB3.out.trans (((Below.refl _ _).alloc (Nat.le_refl _) _).mono HB3.out.size), boxs_past HX3.out _, HS3.out.upK ((Below.refl _ _).alloc (Nat.le_refl _) _), by simp, by unfold World.cell?; rw [heap_alloc_new]; rfl⟩
  have HB4 := Lib.hid hF.1
  have HX4 := Lib.hid hF.2.1
  have HS4 := Lib.hid hF.2.2.1
  have HC4 := Lib.hid hF.2.2.2
  clear hF HB3 HX3 HS3
  generalize V3.heap.size = n3 at *
  obtain ⟨k0, k1, k2, k3, k4, k5⟩ := one_cells HX4.out
  go_wp2_with fail
  refine (HR3.out V4 p HS4.out).mono ?_
  rintro en V5 ⟨p5, rfl, hb⟩
  have HB5 := Lib.hid (HB4.out.trans (hb.mono HB4.out.size))
  have HX5 := Lib.hid (HX4.out.keep hb HX4.out.lt)
  have HC5 : Hid (n3 < V5.heap.size ∧ V5.cell? ⟨n3, 0, none⟩ = some (.slice p3.A0 196608 p3.c0)) := Lib.hid ⟨Nat.lt_of_lt_of_le HC4.out.1 hb.size, (hb.cell HC4.out.1).trans HC4.out.2⟩
  clear hb HB4 HX4 HS4 HC4 k0 k1 k2 k3 k4 k5 HR3
  go_upto_region 4 with fail
  refine (show ∀ U, Below w.heap.size w U ∧ BoxS U n1 p oneG ∧ U.cell? ⟨n3, 0, none⟩ = some (.slice p3.A0 196608 p3.c0) → Code.wp _ _ _ _ U from fun V6 hF => ?_) _ ?_
  rotate_left
  · exact ⟨HB5.out.trans (((Below.refl _ _).alloc (Nat.le_refl _) _).mono HB5.out.size), boxs_past HX5.out _, (((Below.refl V5.heap.size V5).alloc (Nat.le_refl _) _).cell HC5.out.1).trans HC5.out.2⟩
  have HB6 := Lib.hid hF.1
  have c0 := hF.2.2
  obtain ⟨k0, k1, k2, k3, k4, k5⟩ := one_cells hF.2.1
  clear hF HB5 HX5 HC5
  go_wp2
  go_ret
  exact ⟨rfl, HB6.out⟩
theorem awake_ct (w : World) : CT w 5 #[] (.bool true) := fun V _ => (awake_any V).mono fun _ _ h => h
end Go.Proofs.Ytdcolpmmojiffaa.Sto
