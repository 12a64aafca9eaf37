/-
  StoRGrow: The given Grow: what it answers. Conditions: a store no greater than the laws look at, slices that lead to what they say.
-/
import Derived.Test.YtdcolpmmojiffaaQStoCpy
namespace Go.Proofs.Ytdcolpmmojiffaa.Sto
open Go.RowKit Leb Typ

set_option maxRecDepth 100000 in
set_option maxHeartbeats 8000000 in
theorem rgrow_any (B : Nat) (p : PSt) (g : GSt) (n : Nat) (ok : Bool) (w : World) (hst' : StF w B p g) (hB : B ≤ w.heap.size) (hti : g.tiny) (hn : n ≤ 18446744073709551615) :
    Calls Try.prog 14 #[vSt p g, .int .u64 (n : Int), .bool ok] w fun e w' => ∃ p', e = .returned (.tuple #[vSt p' (growG g n ok).1, .int .u64 ((growG g n ok).2 : Int)]) ∧ FarF (fun b => b < B ∨ w.heap.size ≤ b) w' p' (growG g n ok).1 ∧ Below w.heap.size w w' := by
  have HST' := Lib.hid (And.intro hst' hB)
  have hst : StF w w.heap.size p g := hst'.moreB hB
  have HST := Lib.hid hst
  have HFI : Hid (g.mem.length ≤ 1000000 ∧ g.tab.length ≤ 1000000 ∧ g.glo.length ≤ 1000000 ∧ g.els.length ≤ 1000000 ∧ g.dat.length ≤ 1000000) := Lib.hid (by have := hti; unfold GSt.tiny at this; omega)
  have HMY : Hid (∀ x ∈ g.mem, x < 256) := Lib.hid hst.l.mem.1
  clear hst hst' hB hti
  go_enter Try.func14, Try.ntmps14
  go_upto_region 1 with fail
  refine (show ∀ U, AN w U w.heap.size p g → Code.wp _ _ _ _ U from fun V0 hF => ?_) _ ?_
  rotate_left
  · refine ⟨((Below.refl _ _).alloc (Nat.le_refl _) _).alloc (by simp) _, Nat.le_refl _, boxs_past (boxs_new w p g) _, ?_⟩
    have hz : (w.alloc (.cells (vSt p g).cells 27)).heap.size = w.heap.size + 1 := by simp
    rw [← hz]
    have := boxs_new (w.alloc (.cells (vSt p g).cells 27)) ⟨none, 0, none, 0, none, 0, none, 0, none, 0⟩ zeroG
    exact this
  have HA0 := Lib.hid hF
  clear hF
  obtain ⟨k0, k1, k2, k3, k4, k5⟩ := HA0.out.box.cells
  obtain ⟨pg, hpg⟩ : ∃ pg, pg = g.mem.length / 65536 := ⟨_, rfl⟩
  have hq : (g.mem.length : Int).tdiv 65536 = (pg : Int) := by rw [Int.tdiv_eq_ediv_of_nonneg (by omega)]; omega
  have HPG := Lib.hid hpg
  have hw1 : wrap64 (pg : Int) = (pg : Int) := by have := HFI.out.1; unfold wrap64; omega
  have hw3 : IntKind.u64.wrap (pg : Int) = (pg : Int) := by have := HFI.out.1; rw [IntKind.wrap_u64]; omega
  have hwn : n ≤ 4 → IntKind.i64.wrap (n : Int) = (n : Int) := fun h => by rw [IntKind.wrap_i64]; omega
  have hw2 : n ≤ 4 → wrap64 ((pg : Int) + (n : Int)) = (pg : Int) + (n : Int) := fun h => by have := HPG.out; have := HFI.out.1; unfold wrap64; omega
  clear hpg
  cases ok with
  | false =>
    obtain ⟨r0, r1, r2, r3, r4, r5⟩ := HA0.out.res.cells
    simp only [show zeroG.mem.length = 0 from rfl, show zeroG.tab.length = 0 from rfl, show zeroG.glo.length = 0 from rfl, show zeroG.els.length = 0 from rfl, show zeroG.dat.length = 0 from rfl, show zeroG.cap = 0 from rfl] at r0 r1 r2 r3 r4 r5
    have fr' := fun i => HA0.out.res.free i
    have f0 := fr' 0
    have f1 := fr' 1
    have f2 := fr' 2
    have f3 := fr' 3
    have f4 := fr' 4
    have f5 := fr' 5
    clear fr'
    go_wp2
    clear k0 k1 k2 k3 k4 k5 r0 r1 r2 r3 r4 r5 f0 f1 f2 f3 f4 f5
    change bodyPost _ _ _ _ _ (putS V0 (w.heap.size + 1) p g)
    have HX := Lib.hid (HA0.out.res.put p g)
    have HZ := Lib.hid (below_put (n := w.heap.size + 1) HA0.out.b p g (by omega))
    clear HA0
    generalize putS V0 (w.heap.size + 1) p g = V4 at *
    obtain ⟨k0, k1, k2, k3, k4, k5⟩ := HX.out.cells
    refine bodyPost_ret (v := .tuple #[vSt p g, .int .u64 4294967295]) (by simp [results, Try.results14, go_sem, vSt, k0, k1, k2, k3, k4, k5]) rfl ?_
    have e1 : growG g n false = (g, 4294967295) := if_pos (.inl rfl)
    rw [e1]
    exact ⟨p, rfl, (FarF.of (HST'.out.1.below (HZ.out.mono HST'.out.2)) (Nat.le_trans HST'.out.2 HZ.out.size) fun _ h => .inl h), HZ.out⟩
  | true =>
  by_cases hn4 : n ≤ 4
  case neg =>
    have hn4' : (4 : Int) < (n : Int) := by omega
    obtain ⟨r0, r1, r2, r3, r4, r5⟩ := HA0.out.res.cells
    simp only [show zeroG.mem.length = 0 from rfl, show zeroG.tab.length = 0 from rfl, show zeroG.glo.length = 0 from rfl, show zeroG.els.length = 0 from rfl, show zeroG.dat.length = 0 from rfl, show zeroG.cap = 0 from rfl] at r0 r1 r2 r3 r4 r5
    have fr' := fun i => HA0.out.res.free i
    have f0 := fr' 0
    have f1 := fr' 1
    have f2 := fr' 2
    have f3 := fr' 3
    have f4 := fr' 4
    have f5 := fr' 5
    clear fr'
    go_wp2
    clear k0 k1 k2 k3 k4 k5 r0 r1 r2 r3 r4 r5 f0 f1 f2 f3 f4 f5
    change bodyPost _ _ _ _ _ (putS V0 (w.heap.size + 1) p g)
    have HX := Lib.hid (HA0.out.res.put p g)
    have HZ := Lib.hid (below_put (n := w.heap.size + 1) HA0.out.b p g (by omega))
    clear HA0
    generalize putS V0 (w.heap.size + 1) p g = V4 at *
    obtain ⟨k0, k1, k2, k3, k4, k5⟩ := HX.out.cells
    refine bodyPost_ret (v := .tuple #[vSt p g, .int .u64 4294967295]) (by simp [results, Try.results14, go_sem, vSt, k0, k1, k2, k3, k4, k5]) rfl ?_
    have e1 : growG g n true = (g, 4294967295) := if_pos (.inr (.inl (by omega)))
    rw [e1]
    exact ⟨p, rfl, (FarF.of (HST'.out.1.below (HZ.out.mono HST'.out.2)) (Nat.le_trans HST'.out.2 HZ.out.size) fun _ h => .inl h), HZ.out⟩
  case pos =>
  have hn4' : ¬ (4 : Int) < (n : Int) := by omega
  replace hwn := hwn hn4
  replace hw2 := hw2 hn4
  by_cases hc : g.cap < (pg : Int) + (n : Int)
  case pos =>
    obtain ⟨r0, r1, r2, r3, r4, r5⟩ := HA0.out.res.cells
    simp only [show zeroG.mem.length = 0 from rfl, show zeroG.tab.length = 0 from rfl, show zeroG.glo.length = 0 from rfl, show zeroG.els.length = 0 from rfl, show zeroG.dat.length = 0 from rfl, show zeroG.cap = 0 from rfl] at r0 r1 r2 r3 r4 r5
    have fr' := fun i => HA0.out.res.free i
    have f0 := fr' 0
    have f1 := fr' 1
    have f2 := fr' 2
    have f3 := fr' 3
    have f4 := fr' 4
    have f5 := fr' 5
    clear fr'
    go_wp2
    clear k0 k1 k2 k3 k4 k5 r0 r1 r2 r3 r4 r5 f0 f1 f2 f3 f4 f5
    change bodyPost _ _ _ _ _ (putS V0 (w.heap.size + 1) p g)
    have HX := Lib.hid (HA0.out.res.put p g)
    have HZ := Lib.hid (below_put (n := w.heap.size + 1) HA0.out.b p g (by omega))
    clear HA0
    generalize putS V0 (w.heap.size + 1) p g = V4 at *
    obtain ⟨k0, k1, k2, k3, k4, k5⟩ := HX.out.cells
    refine bodyPost_ret (v := .tuple #[vSt p g, .int .u64 4294967295]) (by simp [results, Try.results14, go_sem, vSt, k0, k1, k2, k3, k4, k5]) rfl ?_
    have e1 : growG g n true = (g, 4294967295) := if_pos (.inr (.inr (.inl (by have := HPG.out; omega))))
    rw [e1]
    exact ⟨p, rfl, (FarF.of (HST'.out.1.below (HZ.out.mono HST'.out.2)) (Nat.le_trans HST'.out.2 HZ.out.size) fun _ h => .inl h), HZ.out⟩
  case neg =>
  by_cases h5 : (4 : Int) < (pg : Int) + (n : Int)
  case pos =>
    obtain ⟨r0, r1, r2, r3, r4, r5⟩ := HA0.out.res.cells
    simp only [show zeroG.mem.length = 0 from rfl, show zeroG.tab.length = 0 from rfl, show zeroG.glo.length = 0 from rfl, show zeroG.els.length = 0 from rfl, show zeroG.dat.length = 0 from rfl, show zeroG.cap = 0 from rfl] at r0 r1 r2 r3 r4 r5
    have fr' := fun i => HA0.out.res.free i
    have f0 := fr' 0
    have f1 := fr' 1
    have f2 := fr' 2
    have f3 := fr' 3
    have f4 := fr' 4
    have f5 := fr' 5
    clear fr'
    go_wp2
    clear k0 k1 k2 k3 k4 k5 r0 r1 r2 r3 r4 r5 f0 f1 f2 f3 f4 f5
    change bodyPost _ _ _ _ _ (putS V0 (w.heap.size + 1) p g)
    have HX := Lib.hid (HA0.out.res.put p g)
    have HZ := Lib.hid (below_put (n := w.heap.size + 1) HA0.out.b p g (by omega))
    clear HA0
    generalize putS V0 (w.heap.size + 1) p g = V4 at *
    obtain ⟨k0, k1, k2, k3, k4, k5⟩ := HX.out.cells
    refine bodyPost_ret (v := .tuple #[vSt p g, .int .u64 4294967295]) (by simp [results, Try.results14, go_sem, vSt, k0, k1, k2, k3, k4, k5]) rfl ?_
    have e1 : growG g n true = (g, 4294967295) := if_pos (.inr (.inr (.inr (by have := HPG.out; omega))))
    rw [e1]
    exact ⟨p, rfl, (FarF.of (HST'.out.1.below (HZ.out.mono HST'.out.2)) (Nat.le_trans HST'.out.2 HZ.out.size) fun _ h => .inl h), HZ.out⟩
  case neg =>
  obtain ⟨m, hm⟩ : ∃ m, m = 65536 * n := ⟨_, rfl⟩
  have HWM : Hid (65536 * (n : Int) = (m : Int)) := Lib.hid (by omega)
  have HMM := Lib.hid hm
  have HN4 := Lib.hid hn4
  obtain ⟨gm, hgm⟩ : ∃ gm, gm = g.mem ++ List.replicate m 0 := ⟨_, rfl⟩
  have HGM : Hid (gm = g.mem ++ List.replicate m 0 ∧ g.mem.length + m = gm.length) := Lib.hid ⟨hgm, by rw [hgm]; simp⟩
  have H5 := Lib.hid (And.intro hc h5)
  clear hgm hm
  have hcp := copy_any p.A0 g.mem p.c0 V0 (HST.out.upK HA0.out.b).l.mem HST.out.r.m0 (by have := HFI.out; omega)
  have HCP := Lib.hid (gives_b hcp HMY.out rfl)
  clear hcp
  go_wp2_with fail
  refine HCP.out.mono ?_
  rintro en V1 ⟨A1, c1, rfl, ho1, -, -, -, hb1⟩
  have HO1 : Hid (OwnK kB V1 V0.heap.size (.slice A1 g.mem.length c1) g.mem) := Lib.hid ho1
  have HA1 : Hid (AN w V1 w.heap.size p g) := Lib.hid (HA0.out.next hb1)
  have HV1 : Hid (V0.heap.size ≤ V1.heap.size) := Lib.hid hb1.size
  have HLT := Lib.hid HA0.out.res.lt
  clear ho1 hb1 k0 k1 k2 k3 k4 k5 HA0 HCP
  go_upto_region 5 with (at_builtin; refine app_z kB rfl (.tmp 38) (.tmp 41) 3 .i64 .i64 rfl Try.underlying3 V0.heap.size (.slice A1 g.mem.length c1) g.mem rfl HO1.out m gm.length (congrArg (Value.int .i64) HWM.out) HGM.out.2 (by have := HFI.out; have := HMM.out; have := HN4.out; have := HGM.out.2; omega) HV1.out ?_; intro A3 c3 V3 ho3 hl3 hr3 hn3 hg3; have HQ : Hid (OwnK kB V3 V0.heap.size (.slice A3 gm.length c3) gm) := Lib.hid (by rw [HGM.out.1] at ho3 ⊢; exact ho3); have HA3 : Hid (AN w V3 w.heap.size p g) := Lib.hid (HA1.out.grown hg3 HLT.out fun k hk => (HO1.out.lt k hk).1); clear ho3 hl3 hr3 hn3 hg3; obtain ⟨k0, k1, k2, k3, k4, k5⟩ := HA3.out.box.cells; have f0 := HA3.out.box.free 0)
  have HA4 : Hid (AN w (V3.setCell ⟨w.heap.size, 0, none⟩ (.slice A3 gm.length c3)) w.heap.size { p with A0 := A3, c0 := c3 } { g with mem := gm }) := Lib.hid (HA3.out.step (Below.refl _ _) 0 _ (fun h => h.set0 gm A3 c3))
  have HS4 : Hid (OwnK kB (V3.setCell ⟨w.heap.size, 0, none⟩ (.slice A3 gm.length c3)) V0.heap.size (.slice A3 gm.length c3) gm) := Lib.hid (HQ.out.setCell _ (by have := HLT.out; omega))
  clear HA3 HA1 HQ HO1 f0 k0 k1 k2 k3 k4 k5
  generalize (V3.setCell ⟨w.heap.size, 0, none⟩ (.slice A3 gm.length c3)) = V4 at *
  obtain ⟨k0, k1, k2, k3, k4, k5⟩ := HA4.out.box.cells
  obtain ⟨r0, r1, r2, r3, r4, r5⟩ := HA4.out.res.cells
  simp only [show zeroG.mem.length = 0 from rfl, show zeroG.tab.length = 0 from rfl, show zeroG.glo.length = 0 from rfl, show zeroG.els.length = 0 from rfl, show zeroG.dat.length = 0 from rfl, show zeroG.cap = 0 from rfl] at r0 r1 r2 r3 r4 r5
  have fr' := fun i => HA4.out.res.free i
  have f0 := fr' 0
  have f1 := fr' 1
  have f2 := fr' 2
  have f3 := fr' 3
  have f4 := fr' 4
  have f5 := fr' 5
  clear fr'
  go_wp2
  clear k0 k1 k2 k3 k4 k5 r0 r1 r2 r3 r4 r5 f0 f1 f2 f3 f4 f5
  change bodyPost _ _ _ _ _ (putS V4 (w.heap.size + 1) { p with A0 := A3, c0 := c3 } { g with mem := gm })
  have HX := Lib.hid (HA4.out.res.put { p with A0 := A3, c0 := c3 } { g with mem := gm })
  have HZ := Lib.hid (below_put (n := w.heap.size + 1) HA4.out.b { p with A0 := A3, c0 := c3 } { g with mem := gm } (by omega))
  have HS5 := Lib.hid (HS4.out.put (n := w.heap.size + 1) { p with A0 := A3, c0 := c3 } { g with mem := gm } HLT.out)
  clear HA4 HS4
  generalize putS V4 (w.heap.size + 1) { p with A0 := A3, c0 := c3 } { g with mem := gm } = V5 at *
  obtain ⟨k0, k1, k2, k3, k4, k5⟩ := HX.out.cells
  simp only at k0 k1 k2 k3 k4 k5
  have hq2 : pg = g.mem.length / 65536 := HPG.out
  refine bodyPost_ret (v := .tuple #[vSt { p with A0 := A3, c0 := c3 } { g with mem := gm }, .int .u64 (pg : Int)]) (by simp [results, Try.results14, go_sem, vSt, k0, k1, k2, k3, k4, k5]) rfl ?_
  have e1 : growG g n true = ({ g with mem := gm }, pg) := (if_neg (by have := HN4.out; have h6 := H5.out; rintro (h | h | h | h) <;> first | omega | cases h)).trans (by rw [HGM.out.1, HMM.out, hq2])
  rw [e1]
  refine ⟨_, rfl, ?_, HZ.out⟩
  obtain ⟨-, b1, c1'⟩ := lead_own HS5.out
  have hs : FarF (fun b => b < B ∨ w.heap.size ≤ b) V5 p g := FarF.of (HST'.out.1.below (HZ.out.mono HST'.out.2)) (Nat.le_trans HST'.out.2 HZ.out.size) fun _ h => .inl h
  have hok : ∀ b, V0.heap.size ≤ b → b < B ∨ w.heap.size ≤ b := fun b hb => .inr (by have := HLT.out; omega)
  refine ⟨own_ok HS5.out hok, hs.tab, hs.glo, hs.els, hs.dat, (fun x hx => ?_), ⟨b1, hs.r.t, hs.r.n, hs.r.e, hs.r.d, c1', hs.r.t0, hs.r.n0, hs.r.e0, hs.r.d0⟩⟩
  have hx' : x ∈ gm := hx
  rw [HGM.out.1] at hx'
  rcases List.mem_append.1 hx' with h | h
  · exact HMY.out x h
  · rw [List.eq_of_mem_replicate h]; omega
end Go.Proofs.Ytdcolpmmojiffaa.Sto
