/-
  StoGrow: inst.Grow: what it answers; all three together as 'does'. Conditions: a store that is no greater than the laws look at.
-/
import Derived.Test.YtdcolpmmojiffaaQStoOwn
namespace Go.Proofs.Ytdcolpmmojiffaa.Sto
open Go.RowKit Leb Typ

set_option maxRecDepth 100000 in
set_option maxHeartbeats 4000000 in
theorem grow_any (p : PSt) (g : GSt) (n : Nat) (ok : Bool) (w : World) (hst : StF w w.heap.size p g) (hti : g.tiny) (hn : n ≤ 18446744073709551615) :
    Calls Try.prog 13 #[vSt p g, .int .u64 (n : Int), .bool ok] w fun e w' => ∃ p', e = .returned (.tuple #[vSt p' (growG g n ok).1, .int .u64 ((growG g n ok).2 : Int)]) ∧ FarF (fun b => w.heap.size ≤ b) w' p' (growG g n ok).1 ∧ Below w.heap.size w w' := by
  have HST := Lib.hid hst
  have HFI : Hid (g.mem.length ≤ 1000000 ∧ g.tab.length ≤ 1000000 ∧ g.glo.length ≤ 1000000 ∧ g.els.length ≤ 1000000 ∧ g.dat.length ≤ 1000000) := Lib.hid (by have := hti; unfold GSt.tiny at this; omega)
  have HMY : Hid (∀ x ∈ g.mem, x < 256) := Lib.hid hst.l.mem.1
  clear hst hti
  go_enter Try.func13, Try.ntmps13
  go_upto_region 1 with fail
  refine (show ∀ U, AN w U w.heap.size p g → Code.wp _ _ _ _ U from fun V0 hF => ?_) _ ?_
  rotate_left
  · refine ⟨((Below.refl _ _).alloc (Nat.le_refl _) _).alloc (by simp) _, Nat.le_refl _, boxs_past (boxs_new w p g) _, ?_⟩
    have hz : (w.alloc (.cells (vSt p g).cells 27)).heap.size = w.heap.size + 1 := by simp
    rw [← hz]
    have := boxs_new (w.alloc (.cells (vSt p g).cells 27)) ⟨none, 0, none, 0, none, 0, none, 0, none, 0⟩ zeroG
    exact this
  have HA0 := Lib.hid hF
  clear hF
  obtain ⟨k0, k1, k2, k3, k4, k5⟩ := HA0.out.box.cells
  go_wp2_with fail
  refine (anew_any p g V0 (HST.out.upK HA0.out.b) HFI.out).mono ?_
  rintro en V1 ⟨p1, rfl, hown, hb1⟩
  have HO1 := Lib.hid hown
  have HB1 := Lib.hid hb1
  clear hown hb1 k0 k1 k2 k3 k4 k5
  obtain ⟨k0, k1, k2, k3, k4, k5⟩ := (HA0.out.box.keep HB1.out HA0.out.box.lt).cells
  have fr' := fun i => (HA0.out.box.keep HB1.out HA0.out.box.lt).free i
  have f0 := fr' 0
  have f1 := fr' 1
  have f2 := fr' 2
  have f3 := fr' 3
  have f4 := fr' 4
  have f5 := fr' 5
  clear fr'
  simp only [vSt]
  go_upto_region 2 with fail
  clear k0 k1 k2 k3 k4 k5 f0 f1 f2 f3 f4 f5
  change Code.wp _ _ _ _ (putS V1 w.heap.size p1 g)
  have HA2 := Lib.hid (HA0.out.put (p' := p1) (g' := g) HB1.out)
  have HBB : Hid (Below w.heap.size w V0) := Lib.hid HA0.out.b
  have HL := Lib.hid HA0.out.res.lt
  have HO2 := Lib.hid (HO1.out.put (n := w.heap.size) p1 g (by have := HL.out; omega))
  have HV2 : Hid (V0.heap.size ≤ (putS V1 w.heap.size p1 g).heap.size) := Lib.hid (by have := HB1.out.size; unfold putS; simpa using this)
  clear HO1 HB1 HA0
  generalize putS V1 w.heap.size p1 g = V2 at *
  obtain ⟨k0, k1, k2, k3, k4, k5⟩ := HA2.out.box.cells
  obtain ⟨pg, hpg⟩ : ∃ pg, pg = g.mem.length / 65536 := ⟨_, rfl⟩
  have hq : (g.mem.length : Int).tdiv 65536 = (pg : Int) := by rw [Int.tdiv_eq_ediv_of_nonneg (by omega)]; omega
  have HPG := Lib.hid hpg
  clear hpg
  have hbs := HA2.out.b.size
  have HBS : Hid (V0.heap.size ≤ V2.heap.size) := Lib.hid HV2.out
  clear hbs
  have hw1 : wrap64 (pg : Int) = (pg : Int) := by have := HPG.out; have := HFI.out.1; unfold wrap64; omega
  have hwn : n ≤ 4 → IntKind.i64.wrap (n : Int) = (n : Int) := fun h => by rw [IntKind.wrap_i64]; omega
  have hw2 : n ≤ 4 → wrap64 ((pg : Int) + (n : Int)) = (pg : Int) + (n : Int) := fun h => by have := HPG.out; have := HFI.out.1; unfold wrap64; omega
  obtain ⟨r0, r1, r2, r3, r4, r5⟩ := HA2.out.res.cells
  simp only [show zeroG.mem.length = 0 from rfl, show zeroG.tab.length = 0 from rfl, show zeroG.glo.length = 0 from rfl, show zeroG.els.length = 0 from rfl, show zeroG.dat.length = 0 from rfl, show zeroG.cap = 0 from rfl] at r0 r1 r2 r3 r4 r5
  have fr' := fun i => HA2.out.res.free i
  have f0 := fr' 0
  have f1 := fr' 1
  have f2 := fr' 2
  have f3 := fr' 3
  have f4 := fr' 4
  have f5 := fr' 5
  clear fr'
  cases ok with
  | false =>
    go_wp2
    clear k0 k1 k2 k3 k4 k5 r0 r1 r2 r3 r4 r5 f0 f1 f2 f3 f4 f5
    change bodyPost _ _ _ _ _ (putS V2 (w.heap.size + 1) p1 g)
    have HX := Lib.hid (HA2.out.res.put p1 g)
    have HZ := Lib.hid (below_put (n := w.heap.size + 1) HA2.out.b p1 g (by omega))
    have HO4 := Lib.hid (HO2.out.put (n := w.heap.size + 1) p1 g HL.out)
    clear HA2 HO2
    generalize putS V2 (w.heap.size + 1) p1 g = V4 at *
    obtain ⟨k0, k1, k2, k3, k4, k5⟩ := HX.out.cells
    refine bodyPost_ret (v := .tuple #[vSt p1 g, .int .u64 4294967295]) (by simp [results, Try.results13, go_sem, vSt, k0, k1, k2, k3, k4, k5]) rfl ?_
    have e1 : growG g n false = (g, 4294967295) := if_pos (.inl rfl)
    rw [e1]
    exact ⟨p1, rfl, HO4.out.far HMY.out (fun b hb => by have := HL.out; omega), HZ.out⟩
  | true =>
  by_cases hn4 : n ≤ 4
  case neg =>
    have hn4' : (4 : Int) < (n : Int) := by omega
    go_wp2
    clear k0 k1 k2 k3 k4 k5 r0 r1 r2 r3 r4 r5 f0 f1 f2 f3 f4 f5
    change bodyPost _ _ _ _ _ (putS V2 (w.heap.size + 1) p1 g)
    have HX := Lib.hid (HA2.out.res.put p1 g)
    have HZ := Lib.hid (below_put (n := w.heap.size + 1) HA2.out.b p1 g (by omega))
    have HO4 := Lib.hid (HO2.out.put (n := w.heap.size + 1) p1 g HL.out)
    clear HA2 HO2
    generalize putS V2 (w.heap.size + 1) p1 g = V4 at *
    obtain ⟨k0, k1, k2, k3, k4, k5⟩ := HX.out.cells
    refine bodyPost_ret (v := .tuple #[vSt p1 g, .int .u64 4294967295]) (by simp [results, Try.results13, go_sem, vSt, k0, k1, k2, k3, k4, k5]) rfl ?_
    have e1 : growG g n true = (g, 4294967295) := if_pos (.inr (.inl (by omega)))
    rw [e1]
    exact ⟨p1, rfl, HO4.out.far HMY.out (fun b hb => by have := HL.out; omega), HZ.out⟩
  case pos =>
  have hn4' : ¬ (4 : Int) < (n : Int) := by omega
  replace hwn := hwn hn4
  replace hw2 := hw2 hn4
  by_cases hc : (4 : Int) < g.cap
  · by_cases h5 : (4 : Int) < (pg : Int) + (n : Int)
    · go_wp2
      clear k0 k1 k2 k3 k4 k5 r0 r1 r2 r3 r4 r5 f0 f1 f2 f3 f4 f5
      change bodyPost _ _ _ _ _ (putS V2 (w.heap.size + 1) p1 g)
      have HX := Lib.hid (HA2.out.res.put p1 g)
      have HZ := Lib.hid (below_put (n := w.heap.size + 1) HA2.out.b p1 g (by omega))
      have HO4 := Lib.hid (HO2.out.put (n := w.heap.size + 1) p1 g HL.out)
      clear HA2 HO2
      generalize putS V2 (w.heap.size + 1) p1 g = V4 at *
      obtain ⟨k0, k1, k2, k3, k4, k5⟩ := HX.out.cells
      refine bodyPost_ret (v := .tuple #[vSt p1 g, .int .u64 4294967295]) (by simp [results, Try.results13, go_sem, vSt, k0, k1, k2, k3, k4, k5]) rfl ?_
      have e1 : growG g n true = (g, 4294967295) := if_pos (.inr (.inr (.inr (by have := HPG.out; omega))))
      rw [e1]
      exact ⟨p1, rfl, HO4.out.far HMY.out (fun b hb => by have := HL.out; omega), HZ.out⟩
    · obtain ⟨m, hm⟩ : ∃ m, m = n * 65536 := ⟨_, rfl⟩
      have hwm : IntKind.u64.wrap ((n : Int) * 65536) = (m : Int) := by rw [IntKind.wrap_u64]; omega
      have HMM := Lib.hid hm
      obtain ⟨gm, hgm⟩ : ∃ gm, gm = g.mem ++ List.replicate m 0 := ⟨_, rfl⟩
      have HGM : Hid (gm = g.mem ++ List.replicate m 0 ∧ g.mem.length + m = gm.length) := Lib.hid ⟨hgm, by rw [hgm]; simp⟩
      clear hgm
      have HN4 := Lib.hid hn4
      clear hm
      go_upto_region 6 with (at_builtin; refine app_z kB rfl (.tmp 33) (.tmp 35) 28 .u64 .u64 rfl Try.underlying28 V0.heap.size (.slice p1.A0 g.mem.length p1.c0) g.mem rfl HO2.out.mems m gm.length rfl HGM.out.2 (by have := HFI.out; have := HMM.out; have := HN4.out; have := HGM.out.2; omega) (by have := HL.out; have := HBS.out; omega) ?_; intro A3 c3 V3 ho3 hl3 hr3 hn3 hg3; have HQ : Hid (OwnK kB V3 V0.heap.size (.slice A3 gm.length c3) gm) := Lib.hid (by rw [HGM.out.1] at ho3 ⊢; exact ho3); have HG := Lib.hid hg3; have HA3 : Hid (AN w V3 w.heap.size p1 g) := Lib.hid (HA2.out.grown HG.out HL.out fun k hk => (HO2.out.mems.lt k hk).1); clear ho3 hl3 hr3 hn3 hg3 k0 k1 k2 k3 k4 k5 r0 r1 r2 r3 r4 r5 f0 f1 f2 f3 f4 f5; obtain ⟨k0, k1, k2, k3, k4, k5⟩ := HA3.out.box.cells; have f0 := HA3.out.box.free 0)
      have HA4 : Hid (AN w (V3.setCell ⟨w.heap.size, 0, none⟩ (.slice A3 gm.length c3)) w.heap.size { p1 with A0 := A3, c0 := c3 } { g with mem := gm }) := Lib.hid (HA3.out.step (Below.refl _ _) 0 _ (fun h => h.set0 gm A3 c3))
      have HS4 : Hid (OwnK kB (V3.setCell ⟨w.heap.size, 0, none⟩ (.slice A3 gm.length c3)) V0.heap.size (.slice A3 gm.length c3) gm ∧ OwnK kI (V3.setCell ⟨w.heap.size, 0, none⟩ (.slice A3 gm.length c3)) V0.heap.size (.slice p1.A2 g.tab.length p1.c2) g.tab ∧ OwnK kN (V3.setCell ⟨w.heap.size, 0, none⟩ (.slice A3 gm.length c3)) V0.heap.size (.slice p1.A3 g.glo.length p1.c3) g.glo ∧ OwnK kO (V3.setCell ⟨w.heap.size, 0, none⟩ (.slice A3 gm.length c3)) V0.heap.size (.slice p1.A4 g.els.length p1.c4) g.els ∧ OwnK kO (V3.setCell ⟨w.heap.size, 0, none⟩ (.slice A3 gm.length c3)) V0.heap.size (.slice p1.A5 g.dat.length p1.c5) g.dat) := Lib.hid (by
        obtain ⟨B1, B2, hB1, hB2, q1, q2, q3, q4, q5, q6, q7⟩ := HO2.out.own
        have hl := HL.out
        refine ⟨HQ.out.setCell _ (by omega), ((q2.grown HG.out fun k hk e => ?_).setCell _ (by omega)).base (by omega), ((q3.grown HG.out fun k hk e => ?_).setCell _ (by omega)).base (by omega), ((q4.grown HG.out fun k hk e => ?_).setCell _ (by omega)).base (by omega), ((q5.grown HG.out fun k hk e => ?_).setCell _ (by omega)).base (by omega)⟩
        · have := (q2.lt k hk).1; have := q6 k e.symm; omega
        · have := (q3.lt k hk).1; have := q6 k e.symm; omega
        · have := (q4.lt k hk).1; have := q6 k e.symm; omega
        · have := (q5.lt k hk).1; have := q6 k e.symm; omega)
      clear HA3 HA2 HO2 HQ HG f0 k0 k1 k2 k3 k4 k5
      generalize (V3.setCell ⟨w.heap.size, 0, none⟩ (.slice A3 gm.length c3)) = V4 at *
      obtain ⟨k0, k1, k2, k3, k4, k5⟩ := HA4.out.box.cells
      obtain ⟨r0, r1, r2, r3, r4, r5⟩ := HA4.out.res.cells
      simp only [show zeroG.mem.length = 0 from rfl, show zeroG.tab.length = 0 from rfl, show zeroG.glo.length = 0 from rfl, show zeroG.els.length = 0 from rfl, show zeroG.dat.length = 0 from rfl, show zeroG.cap = 0 from rfl] at r0 r1 r2 r3 r4 r5
      have fr' := fun i => HA4.out.res.free i
      have f0 := fr' 0
      have f1 := fr' 1
      have f2 := fr' 2
      have f3 := fr' 3
      have f4 := fr' 4
      have f5 := fr' 5
      clear fr'
      go_wp2
      clear k0 k1 k2 k3 k4 k5 r0 r1 r2 r3 r4 r5 f0 f1 f2 f3 f4 f5
      change bodyPost _ _ _ _ _ (putS V4 (w.heap.size + 1) { p1 with A0 := A3, c0 := c3 } { g with mem := gm })
      have HX := Lib.hid (HA4.out.res.put { p1 with A0 := A3, c0 := c3 } { g with mem := gm })
      have HZ := Lib.hid (below_put (n := w.heap.size + 1) HA4.out.b { p1 with A0 := A3, c0 := c3 } { g with mem := gm } (by omega))
      have HS5 := Lib.hid (And.intro (HS4.out.1.put (n := w.heap.size + 1) { p1 with A0 := A3, c0 := c3 } { g with mem := gm } HL.out) (And.intro (HS4.out.2.1.put (n := w.heap.size + 1) { p1 with A0 := A3, c0 := c3 } { g with mem := gm } HL.out) (And.intro (HS4.out.2.2.1.put (n := w.heap.size + 1) { p1 with A0 := A3, c0 := c3 } { g with mem := gm } HL.out) (And.intro (HS4.out.2.2.2.1.put (n := w.heap.size + 1) { p1 with A0 := A3, c0 := c3 } { g with mem := gm } HL.out) (HS4.out.2.2.2.2.put (n := w.heap.size + 1) { p1 with A0 := A3, c0 := c3 } { g with mem := gm } HL.out)))))
      clear HA4 HS4
      generalize putS V4 (w.heap.size + 1) { p1 with A0 := A3, c0 := c3 } { g with mem := gm } = V5 at *
      obtain ⟨k0, k1, k2, k3, k4, k5⟩ := HX.out.cells
      simp only at k0 k1 k2 k3 k4 k5
      have hq2 : pg = g.mem.length / 65536 := HPG.out
      refine bodyPost_ret (v := .tuple #[vSt { p1 with A0 := A3, c0 := c3 } { g with mem := gm }, .int .u64 (pg : Int)]) (by simp [results, Try.results13, go_sem, vSt, k0, k1, k2, k3, k4, k5]) rfl ?_
      have e1 : growG g n true = ({ g with mem := gm }, pg) := (if_neg (by have := HN4.out; have h6 := h5; rintro (h | h | h | h) <;> first | omega | cases h)).trans (by rw [HGM.out.1, HMM.out, hq2, Nat.mul_comm])
      rw [e1]
      refine ⟨_, rfl, ?_, HZ.out⟩
      obtain ⟨a1, b1, c1⟩ := lead_own HS5.out.1
      obtain ⟨a2, b2, c2⟩ := lead_own HS5.out.2.1
      obtain ⟨a3, b3, c3'⟩ := lead_own HS5.out.2.2.1
      obtain ⟨a4, b4, c4⟩ := lead_own HS5.out.2.2.2.1
      obtain ⟨a5, b5, c5⟩ := lead_own HS5.out.2.2.2.2
      have hok : ∀ b, V0.heap.size ≤ b → w.heap.size ≤ b := fun b hb => by have := HL.out; omega
      refine ⟨own_ok HS5.out.1 hok, own_ok HS5.out.2.1 hok, own_ok HS5.out.2.2.1 hok, own_ok HS5.out.2.2.2.1 hok, own_ok HS5.out.2.2.2.2 hok, fun x hx => ?_, ⟨b1, b2, b3, b4, b5, c1, c2, c3', c4, c5⟩⟩
      have hx' : x ∈ gm := hx
      rw [HGM.out.1] at hx'
      rcases List.mem_append.1 hx' with h | h
      · exact HMY.out x h
      · rw [List.eq_of_mem_replicate h]; omega
  · by_cases h5 : g.cap < (pg : Int) + (n : Int)
    · go_wp2
      clear k0 k1 k2 k3 k4 k5 r0 r1 r2 r3 r4 r5 f0 f1 f2 f3 f4 f5
      change bodyPost _ _ _ _ _ (putS V2 (w.heap.size + 1) p1 g)
      have HX := Lib.hid (HA2.out.res.put p1 g)
      have HZ := Lib.hid (below_put (n := w.heap.size + 1) HA2.out.b p1 g (by omega))
      have HO4 := Lib.hid (HO2.out.put (n := w.heap.size + 1) p1 g HL.out)
      clear HA2 HO2
      generalize putS V2 (w.heap.size + 1) p1 g = V4 at *
      obtain ⟨k0, k1, k2, k3, k4, k5⟩ := HX.out.cells
      refine bodyPost_ret (v := .tuple #[vSt p1 g, .int .u64 4294967295]) (by simp [results, Try.results13, go_sem, vSt, k0, k1, k2, k3, k4, k5]) rfl ?_
      have e1 : growG g n true = (g, 4294967295) := if_pos (.inr (.inr (.inl (by have := HPG.out; omega))))
      rw [e1]
      exact ⟨p1, rfl, HO4.out.far HMY.out (fun b hb => by have := HL.out; omega), HZ.out⟩
    · obtain ⟨m, hm⟩ : ∃ m, m = n * 65536 := ⟨_, rfl⟩
      have hwm : IntKind.u64.wrap ((n : Int) * 65536) = (m : Int) := by rw [IntKind.wrap_u64]; omega
      have HMM := Lib.hid hm
      obtain ⟨gm, hgm⟩ : ∃ gm, gm = g.mem ++ List.replicate m 0 := ⟨_, rfl⟩
      have HGM : Hid (gm = g.mem ++ List.replicate m 0 ∧ g.mem.length + m = gm.length) := Lib.hid ⟨hgm, by rw [hgm]; simp⟩
      clear hgm
      have HN4 := Lib.hid hn4
      clear hm
      go_upto_region 6 with (at_builtin; refine app_z kB rfl (.tmp 33) (.tmp 35) 28 .u64 .u64 rfl Try.underlying28 V0.heap.size (.slice p1.A0 g.mem.length p1.c0) g.mem rfl HO2.out.mems m gm.length rfl HGM.out.2 (by have := HFI.out; have := HMM.out; have := HN4.out; have := HGM.out.2; omega) (by have := HL.out; have := HBS.out; omega) ?_; intro A3 c3 V3 ho3 hl3 hr3 hn3 hg3; have HQ : Hid (OwnK kB V3 V0.heap.size (.slice A3 gm.length c3) gm) := Lib.hid (by rw [HGM.out.1] at ho3 ⊢; exact ho3); have HG := Lib.hid hg3; have HA3 : Hid (AN w V3 w.heap.size p1 g) := Lib.hid (HA2.out.grown HG.out HL.out fun k hk => (HO2.out.mems.lt k hk).1); clear ho3 hl3 hr3 hn3 hg3 k0 k1 k2 k3 k4 k5 r0 r1 r2 r3 r4 r5 f0 f1 f2 f3 f4 f5; obtain ⟨k0, k1, k2, k3, k4, k5⟩ := HA3.out.box.cells; have f0 := HA3.out.box.free 0)
      have HA4 : Hid (AN w (V3.setCell ⟨w.heap.size, 0, none⟩ (.slice A3 gm.length c3)) w.heap.size { p1 with A0 := A3, c0 := c3 } { g with mem := gm }) := Lib.hid (HA3.out.step (Below.refl _ _) 0 _ (fun h => h.set0 gm A3 c3))
      have HS4 : Hid (OwnK kB (V3.setCell ⟨w.heap.size, 0, none⟩ (.slice A3 gm.length c3)) V0.heap.size (.slice A3 gm.length c3) gm ∧ OwnK kI (V3.setCell ⟨w.heap.size, 0, none⟩ (.slice A3 gm.length c3)) V0.heap.size (.slice p1.A2 g.tab.length p1.c2) g.tab ∧ OwnK kN (V3.setCell ⟨w.heap.size, 0, none⟩ (.slice A3 gm.length c3)) V0.heap.size (.slice p1.A3 g.glo.length p1.c3) g.glo ∧ OwnK kO (V3.setCell ⟨w.heap.size, 0, none⟩ (.slice A3 gm.length c3)) V0.heap.size (.slice p1.A4 g.els.length p1.c4) g.els ∧ OwnK kO (V3.setCell ⟨w.heap.size, 0, none⟩ (.slice A3 gm.length c3)) V0.heap.size (.slice p1.A5 g.dat.length p1.c5) g.dat) := Lib.hid (by
        obtain ⟨B1, B2, hB1, hB2, q1, q2, q3, q4, q5, q6, q7⟩ := HO2.out.own
        have hl := HL.out
        refine ⟨HQ.out.setCell _ (by omega), ((q2.grown HG.out fun k hk e => ?_).setCell _ (by omega)).base (by omega), ((q3.grown HG.out fun k hk e => ?_).setCell _ (by omega)).base (by omega), ((q4.grown HG.out fun k hk e => ?_).setCell _ (by omega)).base (by omega), ((q5.grown HG.out fun k hk e => ?_).setCell _ (by omega)).base (by omega)⟩
        · have := (q2.lt k hk).1; have := q6 k e.symm; omega
        · have := (q3.lt k hk).1; have := q6 k e.symm; omega
        · have := (q4.lt k hk).1; have := q6 k e.symm; omega
        · have := (q5.lt k hk).1; have := q6 k e.symm; omega)
      clear HA3 HA2 HO2 HQ HG f0 k0 k1 k2 k3 k4 k5
      generalize (V3.setCell ⟨w.heap.size, 0, none⟩ (.slice A3 gm.length c3)) = V4 at *
      obtain ⟨k0, k1, k2, k3, k4, k5⟩ := HA4.out.box.cells
      obtain ⟨r0, r1, r2, r3, r4, r5⟩ := HA4.out.res.cells
      simp only [show zeroG.mem.length = 0 from rfl, show zeroG.tab.length = 0 from rfl, show zeroG.glo.length = 0 from rfl, show zeroG.els.length = 0 from rfl, show zeroG.dat.length = 0 from rfl, show zeroG.cap = 0 from rfl] at r0 r1 r2 r3 r4 r5
      have fr' := fun i => HA4.out.res.free i
      have f0 := fr' 0
      have f1 := fr' 1
      have f2 := fr' 2
      have f3 := fr' 3
      have f4 := fr' 4
      have f5 := fr' 5
      clear fr'
      go_wp2
      clear k0 k1 k2 k3 k4 k5 r0 r1 r2 r3 r4 r5 f0 f1 f2 f3 f4 f5
      change bodyPost _ _ _ _ _ (putS V4 (w.heap.size + 1) { p1 with A0 := A3, c0 := c3 } { g with mem := gm })
      have HX := Lib.hid (HA4.out.res.put { p1 with A0 := A3, c0 := c3 } { g with mem := gm })
      have HZ := Lib.hid (below_put (n := w.heap.size + 1) HA4.out.b { p1 with A0 := A3, c0 := c3 } { g with mem := gm } (by omega))
      have HS5 := Lib.hid (And.intro (HS4.out.1.put (n := w.heap.size + 1) { p1 with A0 := A3, c0 := c3 } { g with mem := gm } HL.out) (And.intro (HS4.out.2.1.put (n := w.heap.size + 1) { p1 with A0 := A3, c0 := c3 } { g with mem := gm } HL.out) (And.intro (HS4.out.2.2.1.put (n := w.heap.size + 1) { p1 with A0 := A3, c0 := c3 } { g with mem := gm } HL.out) (And.intro (HS4.out.2.2.2.1.put (n := w.heap.size + 1) { p1 with A0 := A3, c0 := c3 } { g with mem := gm } HL.out) (HS4.out.2.2.2.2.put (n := w.heap.size + 1) { p1 with A0 := A3, c0 := c3 } { g with mem := gm } HL.out)))))
      clear HA4 HS4
      generalize putS V4 (w.heap.size + 1) { p1 with A0 := A3, c0 := c3 } { g with mem := gm } = V5 at *
      obtain ⟨k0, k1, k2, k3, k4, k5⟩ := HX.out.cells
      simp only at k0 k1 k2 k3 k4 k5
      have hq2 : pg = g.mem.length / 65536 := HPG.out
      refine bodyPost_ret (v := .tuple #[vSt { p1 with A0 := A3, c0 := c3 } { g with mem := gm }, .int .u64 (pg : Int)]) (by simp [results, Try.results13, go_sem, vSt, k0, k1, k2, k3, k4, k5]) rfl ?_
      have e1 : growG g n true = ({ g with mem := gm }, pg) := (if_neg (by have := HN4.out; have h6 := h5; rintro (h | h | h | h) <;> first | omega | cases h)).trans (by rw [HGM.out.1, HMM.out, hq2, Nat.mul_comm])
      rw [e1]
      refine ⟨_, rfl, ?_, HZ.out⟩
      obtain ⟨a1, b1, c1⟩ := lead_own HS5.out.1
      obtain ⟨a2, b2, c2⟩ := lead_own HS5.out.2.1
      obtain ⟨a3, b3, c3'⟩ := lead_own HS5.out.2.2.1
      obtain ⟨a4, b4, c4⟩ := lead_own HS5.out.2.2.2.1
      obtain ⟨a5, b5, c5⟩ := lead_own HS5.out.2.2.2.2
      have hok : ∀ b, V0.heap.size ≤ b → w.heap.size ≤ b := fun b hb => by have := HL.out; omega
      refine ⟨own_ok HS5.out.1 hok, own_ok HS5.out.2.1 hok, own_ok HS5.out.2.2.1 hok, own_ok HS5.out.2.2.2.1 hok, own_ok HS5.out.2.2.2.2 hok, fun x hx => ?_, ⟨b1, b2, b3, b4, b5, c1, c2, c3', c4, c5⟩⟩
      have hx' : x ∈ gm := hx
      rw [HGM.out.1] at hx'
      rcases List.mem_append.1 hx' with h | h
      · exact HMY.out x h
      · rw [List.eq_of_mem_replicate h]; omega
end Go.Proofs.Ytdcolpmmojiffaa.Sto
