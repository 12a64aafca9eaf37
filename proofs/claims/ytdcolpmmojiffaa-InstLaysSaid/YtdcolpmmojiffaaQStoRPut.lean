/-
  StoRPut: The given Put: what it answers. Conditions: a store no greater than the laws look at, slices that lead to what they say.
-/
import Derived.Test.YtdcolpmmojiffaaQStoCpy
namespace Go.Proofs.Ytdcolpmmojiffaa.Sto
open Go.RowKit Leb Typ

set_option maxRecDepth 100000 in
set_option maxHeartbeats 8000000 in
theorem rput_any (B : Nat) (p : PSt) (g : GSt) (A : Option Addr) (b : List Nat) (c a fr n : Nat) (w : World) (hst' : StF w B p g) (hB : B ≤ w.heap.size) (hti : g.tiny) (hb : Slc w w.heap.size A c b) (hbl : b.length ≤ 1000) (ha : a ≤ 18446744073709551615) (hfr : fr ≤ 18446744073709551615) (hn : n ≤ 18446744073709551615) :
    Calls Try.prog 12 #[vSt p g, .slice A b.length c, .int .u64 (a : Int), .int .u64 (fr : Int), .int .u64 (n : Int)] w fun e w' => ∃ p', e = .returned (.tuple #[vSt p' (putG g b a fr n).1, .bool (putG g b a fr n).2]) ∧ FarF (fun b => b < B ∨ w.heap.size ≤ b) w' p' (putG g b a fr n).1 ∧ Below w.heap.size w w' := by
  have HST' := Lib.hid (And.intro hst' hB)
  have hst : StF w w.heap.size p g := hst'.moreB hB
  have HST := Lib.hid hst
  have HFI : Hid (g.mem.length ≤ 1000000 ∧ g.tab.length ≤ 1000000 ∧ g.glo.length ≤ 1000000 ∧ g.els.length ≤ 1000000 ∧ g.dat.length ≤ 1000000) := Lib.hid (by have := hti; unfold GSt.tiny at this; omega)
  have HB := Lib.hid hb
  have HMY : Hid (∀ x ∈ g.mem, x < 256) := Lib.hid hst.l.mem.1
  have HN := Lib.hid (And.intro hbl (And.intro ha (And.intro hfr hn)))
  have HR1 : Hid (∀ V x, roomB fr n b.length = x → Calls Try.prog 19 #[.int .u64 (fr : Int), .int .u64 (n : Int), .int .i64 (b.length : Int)] V fun e w' => e = .returned (.bool x) ∧ w' = V) := Lib.hid fun V x hx => hx ▸ rroom_any fr n b.length V hfr hn (by omega)
  have HR2 : Hid (∀ V x, roomB a n g.mem.length = x → Calls Try.prog 19 #[.int .u64 (a : Int), .int .u64 (n : Int), .int .i64 (g.mem.length : Int)] V fun e w' => e = .returned (.bool x) ∧ w' = V) := Lib.hid fun V x hx => hx ▸ rroom_any a n g.mem.length V ha hn (by have := HFI.out; omega)
  clear hst hst' hB hti hb hbl ha hfr hn
  go_enter Try.func12, Try.ntmps12
  go_upto_region 1 with fail
  refine (show ∀ U, AN w U w.heap.size p g → Code.wp _ _ _ _ U from fun V0 hF => ?_) _ ?_
  rotate_left
  · refine ⟨((Below.refl _ _).alloc (Nat.le_refl _) _).alloc (by simp) _, Nat.le_refl _, boxs_past (boxs_new w p g) _, ?_⟩
    have hz : (w.alloc (.cells (vSt p g).cells 27)).heap.size = w.heap.size + 1 := by simp
    rw [← hz]
    have := boxs_new (w.alloc (.cells (vSt p g).cells 27)) ⟨none, 0, none, 0, none, 0, none, 0, none, 0⟩ zeroG
    exact this
  have HA0 := Lib.hid hF
  clear hF
  obtain ⟨k0, k1, k2, k3, k4, k5⟩ := HA0.out.box.cells
  cases hr1 : roomB fr n b.length with
  | false =>
    have HOK : Hid (¬ (fr + n ≤ b.length ∧ a + n ≤ g.mem.length)) := Lib.hid fun h => by
      have := (roomB_iff fr n b.length).2 h.1
      rw [hr1] at this
      cases this
    have H1 := Lib.hid (HR1.out V0 false hr1)
    go_wp2_with fail
    refine H1.out.mono ?_
    rintro en V ⟨rfl, rfl⟩
    rename World => V0
    clear k0 k1 k2 k3 k4 k5
    obtain ⟨k0, k1, k2, k3, k4, k5⟩ := HA0.out.box.cells
    obtain ⟨r0, r1, r2, r3, r4, r5⟩ := HA0.out.res.cells
    simp only [show zeroG.mem.length = 0 from rfl, show zeroG.tab.length = 0 from rfl, show zeroG.glo.length = 0 from rfl, show zeroG.els.length = 0 from rfl, show zeroG.dat.length = 0 from rfl, show zeroG.cap = 0 from rfl] at r0 r1 r2 r3 r4 r5
    have fr' := fun i => HA0.out.res.free i
    have f0 := fr' 0
    have f1 := fr' 1
    have f2 := fr' 2
    have f3 := fr' 3
    have f4 := fr' 4
    have f5 := fr' 5
    clear fr'
    go_wp2
    clear k0 k1 k2 k3 k4 k5 r0 r1 r2 r3 r4 r5 f0 f1 f2 f3 f4 f5
    change bodyPost _ _ _ _ _ (putS V0 (w.heap.size + 1) zeroP zeroG)
    have HX := Lib.hid (HA0.out.res.put zeroP zeroG)
    have HZ := Lib.hid (below_put (n := w.heap.size + 1) HA0.out.b zeroP zeroG (by omega))
    clear HA0
    generalize putS V0 (w.heap.size + 1) zeroP zeroG = V4 at *
    obtain ⟨k0, k1, k2, k3, k4, k5⟩ := HX.out.cells
    refine bodyPost_ret (v := .tuple #[vSt zeroP zeroG, .bool false]) (by simp [results, Try.results12, go_sem, vSt, k0, k1, k2, k3, k4, k5]) rfl ?_
    have e1 : putG g b a fr n = (zeroG, false) := if_neg HOK.out
    rw [e1]
    exact ⟨zeroP, rfl, zero_far V4 _, HZ.out⟩
  | true =>
  have h1 := (roomB_iff fr n b.length).1 hr1
  have H1 := Lib.hid (HR1.out V0 true hr1)
  cases hr2 : roomB a n g.mem.length with
  | false =>
    have HOK : Hid (¬ (fr + n ≤ b.length ∧ a + n ≤ g.mem.length)) := Lib.hid fun h => by
      have := (roomB_iff a n g.mem.length).2 h.2
      rw [hr2] at this
      cases this
    have H2 := Lib.hid (HR2.out V0 false hr2)
    clear h1
    go_wp2_with fail
    refine H1.out.mono ?_
    rintro en V ⟨rfl, rfl⟩
    rename World => V0
    go_wp2_with fail
    refine H2.out.mono ?_
    rintro en V ⟨rfl, rfl⟩
    rename World => V0
    clear k0 k1 k2 k3 k4 k5
    obtain ⟨k0, k1, k2, k3, k4, k5⟩ := HA0.out.box.cells
    obtain ⟨r0, r1, r2, r3, r4, r5⟩ := HA0.out.res.cells
    simp only [show zeroG.mem.length = 0 from rfl, show zeroG.tab.length = 0 from rfl, show zeroG.glo.length = 0 from rfl, show zeroG.els.length = 0 from rfl, show zeroG.dat.length = 0 from rfl, show zeroG.cap = 0 from rfl] at r0 r1 r2 r3 r4 r5
    have fr' := fun i => HA0.out.res.free i
    have f0 := fr' 0
    have f1 := fr' 1
    have f2 := fr' 2
    have f3 := fr' 3
    have f4 := fr' 4
    have f5 := fr' 5
    clear fr'
    go_wp2
    clear k0 k1 k2 k3 k4 k5 r0 r1 r2 r3 r4 r5 f0 f1 f2 f3 f4 f5
    change bodyPost _ _ _ _ _ (putS V0 (w.heap.size + 1) zeroP zeroG)
    have HX := Lib.hid (HA0.out.res.put zeroP zeroG)
    have HZ := Lib.hid (below_put (n := w.heap.size + 1) HA0.out.b zeroP zeroG (by omega))
    clear HA0
    generalize putS V0 (w.heap.size + 1) zeroP zeroG = V4 at *
    obtain ⟨k0, k1, k2, k3, k4, k5⟩ := HX.out.cells
    refine bodyPost_ret (v := .tuple #[vSt zeroP zeroG, .bool false]) (by simp [results, Try.results12, go_sem, vSt, k0, k1, k2, k3, k4, k5]) rfl ?_
    have e1 : putG g b a fr n = (zeroG, false) := if_neg HOK.out
    rw [e1]
    exact ⟨zeroP, rfl, zero_far V4 _, HZ.out⟩
  | true =>
  have h2 := (roomB_iff a n g.mem.length).1 hr2
  have H2 := Lib.hid (HR2.out V0 true hr2)
  have HOK := Lib.hid (And.intro h1 h2)
  obtain ⟨q1, p1⟩ := slice_hi p.A0 g.mem p.c0 a w.heap.size w HST.out.slc (by omega)
  obtain ⟨A2, c2, q2, p2⟩ := slice_to A b c fr (fr + n) w.heap.size w HB.out (by omega) (by omega)
  obtain ⟨A3, c3, q3, p3⟩ := slice_at p.A0 g.mem p.c0 (a + n) w.heap.size w HST.out.slc (by omega)
  rw [show fr + n - fr = n from by omega] at p2 q2
  have hw1 : IntKind.u64.wrap ((fr : Int) + (n : Int)) = (fr : Int) + (n : Int) := by have := HN.out; rw [IntKind.wrap_u64]; omega
  have hw2 : IntKind.u64.wrap ((a : Int) + (n : Int)) = (a : Int) + (n : Int) := by have := HFI.out; rw [IntKind.wrap_u64]; omega
  simp only [Int.natCast_add] at q2 q3
  have HP1 := Lib.hid p1
  have HP2 := Lib.hid p2
  have HP3 := Lib.hid p3
  clear p1 p2 p3 h1 h2
  go_wp2_with fail
  refine H1.out.mono ?_
  rintro en V ⟨rfl, rfl⟩
  rename World => V0
  go_wp2_with fail
  refine H2.out.mono ?_
  rintro en V ⟨rfl, rfl⟩
  rename World => V0
  go_wp2_with fail
  obtain ⟨gm, hgm⟩ : ∃ gm, gm = overL g.mem b a fr n := ⟨_, rfl⟩
  have HGM : Hid (gm = overL g.mem b a fr n ∧ gm.length = g.mem.length) := Lib.hid ⟨hgm, by rw [hgm]; exact overL_length HOK.out.1 HOK.out.2⟩
  clear hgm
  have HL1 : Hid ((g.mem.take a).length = a ∧ ((b.drop fr).take n).length = n ∧ (g.mem.drop (a + n)).length = g.mem.length - (a + n)) := Lib.hid (by have := HOK.out; simp; omega)
  have hcp := copy_any p.A0 (g.mem.take a) p.c0 V0 ((bytes_lead (HP1.out V0 ((HST.out.slc).below HA0.out.b)).bytes).more HA0.out.b.size |> lead_bytes (fun x hx => HMY.out x (List.mem_of_mem_take hx))) HST.out.r.m0 (by have := HL1.out.1; have := HOK.out; have := HFI.out; omega)
  rw [HL1.out.1] at hcp
  refine (gives_b hcp (fun x hx => HMY.out x (List.mem_of_mem_take hx)) HL1.out.1).mono ?_
  rintro en V1 ⟨A1, c1, rfl, ho1, -, -, -, hb1⟩
  have HO1 : Hid (OwnK kB V1 V0.heap.size (.slice A1 a c1) (g.mem.take a)) := Lib.hid ho1
  have HA1 := Lib.hid (HA0.out.next hb1)
  have HV1 : Hid (V0.heap.size ≤ V1.heap.size) := Lib.hid hb1.size
  have HLT := Lib.hid HA0.out.res.lt
  clear hcp ho1 hb1 k0 k1 k2 k3 k4 k5 HA0
  go_upto_region 5 with (at_builtin; refine app_k kB rfl (.tmp 34) (.tmp 40) rfl V0.heap.size (.slice A1 a c1) (g.mem.take a) rfl HO1.out A2 ((b.drop fr).take n) n c2 w.heap.size (a + n) HL1.out.2.1 rfl (bytes_lead (HP2.out V1 (HB.out.below HA1.out.b)).bytes) (HP2.out V1 (HB.out.below HA1.out.b)).nil (by rw [List.length_append, HL1.out.1, HL1.out.2.1]) (by have := HOK.out; have := HFI.out; omega) HV1.out ?_; intro A4 c4 V2 ho2 hl2 hr2 hn2 hb2; have HO2 : Hid (OwnK kB V2 V0.heap.size (.slice A4 (a + n) c4) (g.mem.take a ++ (b.drop fr).take n)) := Lib.hid ho2; have HB2 := Lib.hid hb2; clear ho2 hl2 hr2 hn2 hb2)
  have HA2 : Hid (AN w V2 w.heap.size p g) := Lib.hid ⟨HA1.out.b.trans (HB2.out.mono (by have := HLT.out; omega)), Nat.le_refl _, HA1.out.box.keep HB2.out (by have := HLT.out; omega), HA1.out.res.keep HB2.out HLT.out⟩
  have HV2 : Hid (V0.heap.size ≤ V2.heap.size) := Lib.hid (Nat.le_trans HV1.out HB2.out.size)
  clear HA1 HB2 HO1 HV1
  obtain ⟨k0, k1, k2, k3, k4, k5⟩ := HA2.out.box.cells
  go_upto_region 6 with (at_builtin; refine app_k kB rfl (.tmp 42) (.tmp 48) rfl V0.heap.size (.slice A4 (a + n) c4) (g.mem.take a ++ (b.drop fr).take n) rfl HO2.out A3 (g.mem.drop (a + n)) (g.mem.length - (a + n)) c3 w.heap.size gm.length HL1.out.2.2 rfl (bytes_lead (HP3.out V2 ((HST.out.slc).below HA2.out.b)).bytes) (HP3.out V2 ((HST.out.slc).below HA2.out.b)).nil (by rw [HGM.out.1]; unfold overL; rw [List.append_assoc]) (by have := HGM.out; have := HFI.out; omega) HV2.out ?_; intro A5 c5 V3 ho3 hl3 hr3 hn3 hb3; have HQ : Hid (OwnK kB V3 V0.heap.size (.slice A5 gm.length c5) gm) := Lib.hid (by rw [HGM.out.1] at ho3 ⊢; unfold overL at ho3 ⊢; rw [List.append_assoc] at ho3; exact ho3); have HB3 := Lib.hid hb3; have HA3 : Hid (AN w V3 w.heap.size p g) := Lib.hid ⟨HA2.out.b.trans (hb3.mono (by have := HLT.out; omega)), Nat.le_refl _, HA2.out.box.keep hb3 (by have := HLT.out; omega), HA2.out.res.keep hb3 HLT.out⟩; clear ho3 hl3 hr3 hn3 hb3 k0 k1 k2 k3 k4 k5; obtain ⟨k0, k1, k2, k3, k4, k5⟩ := HA3.out.box.cells; have f0 := HA3.out.box.free 0)
  have HA4 : Hid (AN w (V3.setCell ⟨w.heap.size, 0, none⟩ (.slice A5 gm.length c5)) w.heap.size { p with A0 := A5, c0 := c5 } { g with mem := gm }) := Lib.hid (HA3.out.step (Below.refl _ _) 0 _ (fun h => h.set0 gm A5 c5))
  have HS4 : Hid (OwnK kB (V3.setCell ⟨w.heap.size, 0, none⟩ (.slice A5 gm.length c5)) V0.heap.size (.slice A5 gm.length c5) gm) := Lib.hid (HQ.out.setCell _ (by have := HLT.out; omega))
  clear HA3 HA2 HQ HB3 HO2 f0 k0 k1 k2 k3 k4 k5
  generalize (V3.setCell ⟨w.heap.size, 0, none⟩ (.slice A5 gm.length c5)) = V4 at *
  obtain ⟨k0, k1, k2, k3, k4, k5⟩ := HA4.out.box.cells
  obtain ⟨r0, r1, r2, r3, r4, r5⟩ := HA4.out.res.cells
  simp only [show zeroG.mem.length = 0 from rfl, show zeroG.tab.length = 0 from rfl, show zeroG.glo.length = 0 from rfl, show zeroG.els.length = 0 from rfl, show zeroG.dat.length = 0 from rfl, show zeroG.cap = 0 from rfl] at r0 r1 r2 r3 r4 r5
  have fr' := fun i => HA4.out.res.free i
  have f0 := fr' 0
  have f1 := fr' 1
  have f2 := fr' 2
  have f3 := fr' 3
  have f4 := fr' 4
  have f5 := fr' 5
  clear fr'
  go_wp2
  clear k0 k1 k2 k3 k4 k5 r0 r1 r2 r3 r4 r5 f0 f1 f2 f3 f4 f5
  change bodyPost _ _ _ _ _ (putS V4 (w.heap.size + 1) { p with A0 := A5, c0 := c5 } { g with mem := gm })
  have HX := Lib.hid (HA4.out.res.put { p with A0 := A5, c0 := c5 } { g with mem := gm })
  have HZ := Lib.hid (below_put (n := w.heap.size + 1) HA4.out.b { p with A0 := A5, c0 := c5 } { g with mem := gm } (by omega))
  have HS5 := Lib.hid (HS4.out.put (n := w.heap.size + 1) { p with A0 := A5, c0 := c5 } { g with mem := gm } HLT.out)
  clear HA4 HS4
  generalize putS V4 (w.heap.size + 1) { p with A0 := A5, c0 := c5 } { g with mem := gm } = V5 at *
  obtain ⟨k0, k1, k2, k3, k4, k5⟩ := HX.out.cells
  simp only at k0 k1 k2 k3 k4 k5
  refine bodyPost_ret (v := .tuple #[vSt { p with A0 := A5, c0 := c5 } { g with mem := gm }, .bool true]) (by simp [results, Try.results12, go_sem, vSt, k0, k1, k2, k3, k4, k5]) rfl ?_
  have e1 : putG g b a fr n = ({ g with mem := gm }, true) := (if_pos HOK.out).trans (by rw [HGM.out.1])
  rw [e1]
  refine ⟨_, rfl, ?_, HZ.out⟩
  obtain ⟨-, b1, c1'⟩ := lead_own HS5.out
  have hs : FarF (fun b => b < B ∨ w.heap.size ≤ b) V5 p g := FarF.of (HST'.out.1.below (HZ.out.mono HST'.out.2)) (Nat.le_trans HST'.out.2 HZ.out.size) fun _ h => .inl h
  have hok : ∀ b, V0.heap.size ≤ b → b < B ∨ w.heap.size ≤ b := fun b hb => .inr (by have := HLT.out; omega)
  exact ⟨own_ok HS5.out hok, hs.tab, hs.glo, hs.els, hs.dat, (fun x hx => (by rw [HGM.out.1] at hx; exact overL_mem HMY.out HB.out.bytes.1 x hx)), ⟨b1, hs.r.t, hs.r.n, hs.r.e, hs.r.d, c1', hs.r.t0, hs.r.n0, hs.r.e0, hs.r.d0⟩⟩
end Go.Proofs.Ytdcolpmmojiffaa.Sto
