/-
  StoAnew: inst.anew: the same store in memory of its own. Conditions: the store's slices lead to what they say, with their room.
-/
import Derived.Test.YtdcolpmmojiffaaQStoKd
namespace Go.Proofs.Ytdcolpmmojiffaa.Sto
open Go.RowKit Leb Typ

theorem BoxS.set2 {V : World} {b : Nat} {p : PSt} {g : GSt} (h : BoxS V b p g) (m : List Int) (A : Option Addr) (c : Nat) : BoxS (V.setCell ⟨b, 2, none⟩ (.slice A m.length c)) b { p with A2 := A, c2 := c } { g with tab := m } := by
  unfold BoxS at *
  unfold World.setCell
  simp [Array.getElem?_modify, h]
theorem BoxS.set3 {V : World} {b : Nat} {p : PSt} {g : GSt} (h : BoxS V b p g) (m : List Nat) (A : Option Addr) (c : Nat) : BoxS (V.setCell ⟨b, 3, none⟩ (.slice A m.length c)) b { p with A3 := A, c3 := c } { g with glo := m } := by
  unfold BoxS at *
  unfold World.setCell
  simp [Array.getElem?_modify, h]
theorem BoxS.set4 {V : World} {b : Nat} {p : PSt} {g : GSt} (h : BoxS V b p g) (m : List Bool) (A : Option Addr) (c : Nat) : BoxS (V.setCell ⟨b, 4, none⟩ (.slice A m.length c)) b { p with A4 := A, c4 := c } { g with els := m } := by
  unfold BoxS at *
  unfold World.setCell
  simp [Array.getElem?_modify, h]
theorem BoxS.set5 {V : World} {b : Nat} {p : PSt} {g : GSt} (h : BoxS V b p g) (m : List Bool) (A : Option Addr) (c : Nat) : BoxS (V.setCell ⟨b, 5, none⟩ (.slice A m.length c)) b { p with A5 := A, c5 := c } { g with dat := m } := by
  unfold BoxS at *
  unfold World.setCell
  simp [Array.getElem?_modify, h]
theorem OwnK.base {α : Type} {K : Kd α} {w : World} {b b' : Nat} {v : Value} {l : List α} (h : OwnK K w b v l) (hb : b' ≤ b) : OwnK K w b' v l := by
  refine ⟨h.1, ?_⟩
  rcases h.2 with ⟨rfl, h0⟩ | ⟨g, cap, cur, rfl, h1, h2⟩
  · exact .inl ⟨rfl, h0⟩
  · exact .inr ⟨g, cap, cur, rfl, by omega, h2⟩
theorem OwnK.setCell {α : Type} {K : Kd α} {w : World} {b : Nat} {v : Value} {l : List α} (h : OwnK K w b v l) {n i : Nat} (x : Value) (hn : n < b) : OwnK K (w.setCell ⟨n, i, none⟩ x) b v l := by
  refine ⟨h.1, ?_⟩
  rcases h.2 with ⟨rfl, h0⟩ | ⟨g, cap, cur, rfl, h1, h2, h3, h4, h5⟩
  · exact .inl ⟨rfl, h0⟩
  · exact .inr ⟨g, cap, cur, rfl, h1, (Below.heap_setCell _ _ _ _ (by show g ≠ n; omega)).trans h2, h3, h4, h5⟩
def putS (V : World) (b : Nat) (p : PSt) (g : GSt) : World := (((((V.setCell ⟨b, 0, none⟩ (.slice p.A0 g.mem.length p.c0)).setCell ⟨b, 1, none⟩ (.int .i64 g.cap)).setCell ⟨b, 2, none⟩ (.slice p.A2 g.tab.length p.c2)).setCell ⟨b, 3, none⟩ (.slice p.A3 g.glo.length p.c3)).setCell ⟨b, 4, none⟩ (.slice p.A4 g.els.length p.c4)).setCell ⟨b, 5, none⟩ (.slice p.A5 g.dat.length p.c5)
theorem BoxS.put {V : World} {b : Nat} {p : PSt} {g : GSt} (h : BoxS V b p g) (p' : PSt) (g' : GSt) : BoxS (putS V b p' g') b p' g' := by
  unfold BoxS at *
  unfold putS World.setCell
  simp [Array.getElem?_modify, h]
theorem OwnK.put {α : Type} {K : Kd α} {w : World} {b n : Nat} {v : Value} {l : List α} (h : OwnK K w b v l) (p : PSt) (g : GSt) (hn : n < b) : OwnK K (putS w n p g) b v l := (((((h.setCell _ hn).setCell _ hn).setCell _ hn).setCell _ hn).setCell _ hn).setCell _ hn
theorem below_put {w V : World} {n B : Nat} (h : Below B w V) (p : PSt) (g : GSt) (hn : B ≤ n) : Below B w (putS V n p g) := (((((h.setCell (p := ⟨_, _, none⟩) hn _).setCell (p := ⟨_, _, none⟩) hn _).setCell (p := ⟨_, _, none⟩) hn _).setCell (p := ⟨_, _, none⟩) hn _).setCell (p := ⟨_, _, none⟩) hn _).setCell (p := ⟨_, _, none⟩) hn _
theorem StF.upK {w w' : World} {p : PSt} {g : GSt} (h : StF w w.heap.size p g) (hb : Below w.heap.size w w') : StF w' w'.heap.size p g :=
  ⟨⟨(h.l.mem.below hb).more hb.size, lead_ints ((ints_lead (h.l.tab.below hb)).more hb.size), lead_nums ((nums_lead (h.l.glo.below hb)).more hb.size), lead_bools ((bools_lead (h.l.els.below hb)).more hb.size), lead_bools ((bools_lead (h.l.dat.below hb)).more hb.size)⟩, h.r⟩
theorem StF.moreB {w : World} {B B' : Nat} {p : PSt} {g : GSt} (h : StF w B p g) (hB : B ≤ B') : StF w B' p g :=
  ⟨⟨h.l.mem.more hB, lead_ints ((ints_lead h.l.tab).more hB), lead_nums ((nums_lead h.l.glo).more hB), lead_bools ((bools_lead h.l.els).more hB), lead_bools ((bools_lead h.l.dat).more hB)⟩, h.r⟩
structure AN (w V : World) (na : Nat) (p : PSt) (g : GSt) : Prop where
  b : Below w.heap.size w V
  lo : w.heap.size ≤ na
  box : BoxS V na p g
  res : BoxS V (na + 1) ⟨none, 0, none, 0, none, 0, none, 0, none, 0⟩ zeroG
theorem AN.step {w V V' : World} {na : Nat} {p p' : PSt} {g g' : GSt} (h : AN w V na p g) (hb : Below V.heap.size V V') (i : Nat) (x : Value) (hx : BoxS V' na p g → BoxS (V'.setCell ⟨na, i, none⟩ x) na p' g') : AN w (V'.setCell ⟨na, i, none⟩ x) na p' g' where
  b := (h.b.trans (hb.mono h.b.size)).setCell (p := ⟨na, i, none⟩) h.lo _
  lo := h.lo
  box := hx (h.box.keep hb h.box.lt)
  res := (Below.heap_setCell _ _ _ _ (by show na + 1 ≠ na; omega)).trans (h.res.keep hb h.res.lt)
theorem AN.own {V V' : World} {na B : Nat} {α : Type} {K : Kd α} {v : Value} {l : List α} (h : OwnK K V B v l) (hb : Below V.heap.size V V') (hB : na < B) (i : Nat) (x : Value) : OwnK K (V'.setCell ⟨na, i, none⟩ x) B v l := (h.keep hb (Nat.le_refl _)).setCell x hB
structure OwnS (B : Nat) (w : World) (p : PSt) (g : GSt) : Prop where
  own : ∃ B1 B2, B ≤ B1 ∧ B1 ≤ B2 ∧ OwnK kB w B (.slice p.A0 g.mem.length p.c0) g.mem ∧ OwnK kI w B1 (.slice p.A2 g.tab.length p.c2) g.tab ∧ OwnK kN w B2 (.slice p.A3 g.glo.length p.c3) g.glo ∧ OwnK kO w B2 (.slice p.A4 g.els.length p.c4) g.els ∧ OwnK kO w B2 (.slice p.A5 g.dat.length p.c5) g.dat ∧
    (∀ k, (Value.slice p.A0 g.mem.length p.c0).ownBlock = some k → k < B1) ∧ (∀ k, (Value.slice p.A2 g.tab.length p.c2).ownBlock = some k → k < B2)
set_option maxRecDepth 100000 in
set_option maxHeartbeats 4000000 in
theorem anew_any (p : PSt) (g : GSt) (w : World) (hst : StF w w.heap.size p g) (hfit : g.mem.length ≤ 1000000 ∧ g.tab.length ≤ 1000000 ∧ g.glo.length ≤ 1000000 ∧ g.els.length ≤ 1000000 ∧ g.dat.length ≤ 1000000) :
    Calls Try.prog 17 #[vSt p g] w fun e w' => ∃ p', e = .returned (vSt p' g) ∧ OwnS w.heap.size w' p' g ∧ Below w.heap.size w w' := by
  have HST := Lib.hid hst
  have HFI := Lib.hid hfit
  clear hst hfit
  go_enter Try.func17, Try.ntmps17
  go_upto_region 1 with fail
  refine (show ∀ U, AN w U w.heap.size p g → Code.wp _ _ _ _ U from fun V0 hF => ?_) _ ?_
  rotate_left
  · refine ⟨((Below.refl _ _).alloc (Nat.le_refl _) _).alloc (by simp) _, Nat.le_refl _, boxs_past (boxs_new w p g) _, ?_⟩
    have hz : (w.alloc (.cells (vSt p g).cells 27)).heap.size = w.heap.size + 1 := by simp
    rw [← hz]
    have := boxs_new (w.alloc (.cells (vSt p g).cells 27)) ⟨none, 0, none, 0, none, 0, none, 0, none, 0⟩ zeroG
    exact this
  have HA0 := Lib.hid hF
  clear hF
  obtain ⟨k0, k1, k2, k3, k4, k5⟩ := HA0.out.box.cells
  go_upto_region 2 with (at_builtin; refine app_k kB rfl _ (.tmp 4) rfl V0.heap.size (.slice none 0 0) [] rfl (OwnK.nil _ _) p.A0 g.mem g.mem.length p.c0 w.heap.size g.mem.length rfl rfl (bytes_lead (HST.out.l.mem.below HA0.out.b)) HST.out.r.m0 rfl (by have := HFI.out; omega) (Nat.le_refl _) ?_; intro A1 c1 U1 ho1 hl1 hr1 hn1 hb1; have HO1 := Lib.hid ho1; have HB1 := Lib.hid hb1; have f0 := (HA0.out.box.keep HB1.out HA0.out.box.lt).free 0; clear ho1 hl1 hr1 hn1 hb1 k0 k1 k2 k3 k4 k5; obtain ⟨k0, k1, k2, k3, k4, k5⟩ := (HA0.out.box.keep HB1.out HA0.out.box.lt).cells)
  have HA1 : Hid (AN w (U1.setCell ⟨w.heap.size, 0, none⟩ (.slice A1 g.mem.length c1)) w.heap.size { p with A0 := A1, c0 := c1 } g) := Lib.hid (HA0.out.step HB1.out 0 _ (fun h => h.set0 g.mem A1 c1))
  have HQ1 : Hid (OwnK kB (U1.setCell ⟨w.heap.size, 0, none⟩ (.slice A1 g.mem.length c1)) (w.heap.size + 2) (.slice A1 g.mem.length c1) g.mem) := Lib.hid ((HO1.out.base (by have := HA0.out.res.lt; omega)).setCell _ (by omega))
  clear HA0 HO1 HB1 f0 k0 k1 k2 k3 k4 k5
  generalize (U1.setCell ⟨w.heap.size, 0, none⟩ (.slice A1 g.mem.length c1)) = V1 at *
  have HL1 : Hid (w.heap.size < V1.heap.size) := Lib.hid HA1.out.box.lt
  have HR1 : Hid (w.heap.size + 1 < V1.heap.size) := Lib.hid HA1.out.res.lt
  have HM1 : Hid (∀ k, (Value.slice A1 g.mem.length c1).ownBlock = some k → k < V1.heap.size) := Lib.hid fun k hk => (HQ1.out.lt k hk).2
  obtain ⟨k0, k1, k2, k3, k4, k5⟩ := HA1.out.box.cells
  go_upto_region 3 with (at_builtin; refine app_k kI rfl _ (.tmp 8) rfl V1.heap.size (.slice none 0 0) [] rfl (OwnK.nil _ _) p.A2 g.tab g.tab.length p.c2 w.heap.size g.tab.length rfl rfl (ints_lead (HST.out.l.tab.below HA1.out.b)) HST.out.r.t0 rfl (by have := HFI.out; omega) (Nat.le_refl _) ?_; intro A2 c2 U2 ho2 hl2 hr2 hn2 hb2; have HO2 := Lib.hid ho2; have HB2 := Lib.hid hb2; have f0 := (HA1.out.box.keep HB2.out HA1.out.box.lt).free 2; clear ho2 hl2 hr2 hn2 hb2 k0 k1 k2 k3 k4 k5; obtain ⟨k0, k1, k2, k3, k4, k5⟩ := (HA1.out.box.keep HB2.out HA1.out.box.lt).cells)
  have HA2 : Hid (AN w (U2.setCell ⟨w.heap.size, 2, none⟩ (.slice A2 g.tab.length c2)) w.heap.size { { p with A0 := A1, c0 := c1 } with A2 := A2, c2 := c2 } g) := Lib.hid (HA1.out.step HB2.out 2 _ (fun h => h.set2 g.tab A2 c2))
  have HQ2 : Hid (OwnK kI (U2.setCell ⟨w.heap.size, 2, none⟩ (.slice A2 g.tab.length c2)) V1.heap.size (.slice A2 g.tab.length c2) g.tab) := Lib.hid ((HO2.out.base (Nat.le_refl _)).setCell _ HL1.out)
  replace HQ1 := Lib.hid (AN.own (na := w.heap.size) HQ1.out HB2.out (by omega) 2 (.slice A2 g.tab.length c2))
  have HS2 : Hid (V1.heap.size ≤ (U2.setCell ⟨w.heap.size, 2, none⟩ (.slice A2 g.tab.length c2)).heap.size) := Lib.hid (by have := HB2.out.size; simpa using this)
  clear HA1 HO2 HB2 f0 k0 k1 k2 k3 k4 k5
  generalize (U2.setCell ⟨w.heap.size, 2, none⟩ (.slice A2 g.tab.length c2)) = V2 at *
  have HL2 : Hid (w.heap.size < V2.heap.size) := Lib.hid HA2.out.box.lt
  have HR2 : Hid (w.heap.size + 1 < V2.heap.size) := Lib.hid HA2.out.res.lt
  have HM2 : Hid (∀ k, (Value.slice A2 g.tab.length c2).ownBlock = some k → k < V2.heap.size) := Lib.hid fun k hk => (HQ2.out.lt k hk).2
  obtain ⟨k0, k1, k2, k3, k4, k5⟩ := HA2.out.box.cells
  go_upto_region 4 with (at_builtin; refine app_k kN rfl _ (.tmp 12) rfl V2.heap.size (.slice none 0 0) [] rfl (OwnK.nil _ _) p.A3 g.glo g.glo.length p.c3 w.heap.size g.glo.length rfl rfl (nums_lead (HST.out.l.glo.below HA2.out.b)) HST.out.r.n0 rfl (by have := HFI.out; omega) (Nat.le_refl _) ?_; intro A3 c3 U3 ho3 hl3 hr3 hn3 hb3; have HO3 := Lib.hid ho3; have HB3 := Lib.hid hb3; have f0 := (HA2.out.box.keep HB3.out HA2.out.box.lt).free 3; clear ho3 hl3 hr3 hn3 hb3 k0 k1 k2 k3 k4 k5; obtain ⟨k0, k1, k2, k3, k4, k5⟩ := (HA2.out.box.keep HB3.out HA2.out.box.lt).cells)
  have HA3 : Hid (AN w (U3.setCell ⟨w.heap.size, 3, none⟩ (.slice A3 g.glo.length c3)) w.heap.size { { { p with A0 := A1, c0 := c1 } with A2 := A2, c2 := c2 } with A3 := A3, c3 := c3 } g) := Lib.hid (HA2.out.step HB3.out 3 _ (fun h => h.set3 g.glo A3 c3))
  have HQ3 : Hid (OwnK kN (U3.setCell ⟨w.heap.size, 3, none⟩ (.slice A3 g.glo.length c3)) V2.heap.size (.slice A3 g.glo.length c3) g.glo) := Lib.hid ((HO3.out.base (Nat.le_refl _)).setCell _ HL2.out)
  replace HQ1 := Lib.hid (AN.own (na := w.heap.size) HQ1.out HB3.out (by omega) 3 (.slice A3 g.glo.length c3))
  replace HQ2 := Lib.hid (AN.own (na := w.heap.size) HQ2.out HB3.out HL1.out 3 (.slice A3 g.glo.length c3))
  have HS3 : Hid (V2.heap.size ≤ (U3.setCell ⟨w.heap.size, 3, none⟩ (.slice A3 g.glo.length c3)).heap.size) := Lib.hid (by have := HB3.out.size; simpa using this)
  clear HA2 HO3 HB3 f0 k0 k1 k2 k3 k4 k5
  generalize (U3.setCell ⟨w.heap.size, 3, none⟩ (.slice A3 g.glo.length c3)) = V3 at *
  obtain ⟨k0, k1, k2, k3, k4, k5⟩ := HA3.out.box.cells
  go_upto_region 5 with (at_builtin; refine app_k kO rfl _ (.tmp 16) rfl V3.heap.size (.slice none 0 0) [] rfl (OwnK.nil _ _) p.A4 g.els g.els.length p.c4 w.heap.size g.els.length rfl rfl (bools_lead (HST.out.l.els.below HA3.out.b)) HST.out.r.e0 rfl (by have := HFI.out; omega) (Nat.le_refl _) ?_; intro A4 c4 U4 ho4 hl4 hr4 hn4 hb4; have HO4 := Lib.hid ho4; have HB4 := Lib.hid hb4; have f0 := (HA3.out.box.keep HB4.out HA3.out.box.lt).free 4; clear ho4 hl4 hr4 hn4 hb4 k0 k1 k2 k3 k4 k5; obtain ⟨k0, k1, k2, k3, k4, k5⟩ := (HA3.out.box.keep HB4.out HA3.out.box.lt).cells)
  have HA4 : Hid (AN w (U4.setCell ⟨w.heap.size, 4, none⟩ (.slice A4 g.els.length c4)) w.heap.size { { { { p with A0 := A1, c0 := c1 } with A2 := A2, c2 := c2 } with A3 := A3, c3 := c3 } with A4 := A4, c4 := c4 } g) := Lib.hid (HA3.out.step HB4.out 4 _ (fun h => h.set4 g.els A4 c4))
  have HQ4 : Hid (OwnK kO (U4.setCell ⟨w.heap.size, 4, none⟩ (.slice A4 g.els.length c4)) V2.heap.size (.slice A4 g.els.length c4) g.els) := Lib.hid ((HO4.out.base HS3.out).setCell _ HL2.out)
  replace HQ1 := Lib.hid (AN.own (na := w.heap.size) HQ1.out HB4.out (by omega) 4 (.slice A4 g.els.length c4))
  replace HQ2 := Lib.hid (AN.own (na := w.heap.size) HQ2.out HB4.out HL1.out 4 (.slice A4 g.els.length c4))
  replace HQ3 := Lib.hid (AN.own (na := w.heap.size) HQ3.out HB4.out HL2.out 4 (.slice A4 g.els.length c4))
  have HS4 : Hid (V2.heap.size ≤ (U4.setCell ⟨w.heap.size, 4, none⟩ (.slice A4 g.els.length c4)).heap.size) := Lib.hid (by have := HB4.out.size; have h2 := HS3.out; refine Nat.le_trans h2 (by simpa using this))
  clear HA3 HO4 HB4 f0 k0 k1 k2 k3 k4 k5
  generalize (U4.setCell ⟨w.heap.size, 4, none⟩ (.slice A4 g.els.length c4)) = V4 at *
  obtain ⟨k0, k1, k2, k3, k4, k5⟩ := HA4.out.box.cells
  go_upto_region 6 with (at_builtin; refine app_k kO rfl _ (.tmp 20) rfl V4.heap.size (.slice none 0 0) [] rfl (OwnK.nil _ _) p.A5 g.dat g.dat.length p.c5 w.heap.size g.dat.length rfl rfl (bools_lead (HST.out.l.dat.below HA4.out.b)) HST.out.r.d0 rfl (by have := HFI.out; omega) (Nat.le_refl _) ?_; intro A5 c5 U5 ho5 hl5 hr5 hn5 hb5; have HO5 := Lib.hid ho5; have HB5 := Lib.hid hb5; have f0 := (HA4.out.box.keep HB5.out HA4.out.box.lt).free 5; clear ho5 hl5 hr5 hn5 hb5 k0 k1 k2 k3 k4 k5; obtain ⟨k0, k1, k2, k3, k4, k5⟩ := (HA4.out.box.keep HB5.out HA4.out.box.lt).cells)
  have HA5 : Hid (AN w (U5.setCell ⟨w.heap.size, 5, none⟩ (.slice A5 g.dat.length c5)) w.heap.size { { { { { p with A0 := A1, c0 := c1 } with A2 := A2, c2 := c2 } with A3 := A3, c3 := c3 } with A4 := A4, c4 := c4 } with A5 := A5, c5 := c5 } g) := Lib.hid (HA4.out.step HB5.out 5 _ (fun h => h.set5 g.dat A5 c5))
  have HQ5 : Hid (OwnK kO (U5.setCell ⟨w.heap.size, 5, none⟩ (.slice A5 g.dat.length c5)) V2.heap.size (.slice A5 g.dat.length c5) g.dat) := Lib.hid ((HO5.out.base HS4.out).setCell _ HL2.out)
  replace HQ1 := Lib.hid (AN.own (na := w.heap.size) HQ1.out HB5.out (by omega) 5 (.slice A5 g.dat.length c5))
  replace HQ2 := Lib.hid (AN.own (na := w.heap.size) HQ2.out HB5.out HL1.out 5 (.slice A5 g.dat.length c5))
  replace HQ3 := Lib.hid (AN.own (na := w.heap.size) HQ3.out HB5.out HL2.out 5 (.slice A5 g.dat.length c5))
  replace HQ4 := Lib.hid (AN.own (na := w.heap.size) HQ4.out HB5.out HL2.out 5 (.slice A5 g.dat.length c5))
  clear HA4 HO5 HB5 f0 k0 k1 k2 k3 k4 k5
  generalize (U5.setCell ⟨w.heap.size, 5, none⟩ (.slice A5 g.dat.length c5)) = V5 at *
  obtain ⟨k0, k1, k2, k3, k4, k5⟩ := HA5.out.box.cells
  obtain ⟨r0, r1, r2, r3, r4, r5⟩ := HA5.out.res.cells
  simp only [show zeroG.mem.length = 0 from rfl, show zeroG.tab.length = 0 from rfl, show zeroG.glo.length = 0 from rfl, show zeroG.els.length = 0 from rfl, show zeroG.dat.length = 0 from rfl, show zeroG.cap = 0 from rfl] at r0 r1 r2 r3 r4 r5
  have fr := fun i => HA5.out.res.free i
  have f0 := fr 0
  have f1 := fr 1
  have f2 := fr 2
  have f3 := fr 3
  have f4 := fr 4
  have f5 := fr 5
  clear fr
  go_wp2
  clear k0 k1 k2 k3 k4 k5 r0 r1 r2 r3 r4 r5 f0 f1 f2 f3 f4 f5
  change bodyPost _ _ _ _ _ (putS V5 (w.heap.size + 1) ⟨A1, c1, A2, c2, A3, c3, A4, c4, A5, c5⟩ g)
  have HX := Lib.hid (HA5.out.res.put ⟨A1, c1, A2, c2, A3, c3, A4, c4, A5, c5⟩ g)
  have HZ := Lib.hid (below_put (n := w.heap.size + 1) HA5.out.b ⟨A1, c1, A2, c2, A3, c3, A4, c4, A5, c5⟩ g (by omega))
  replace HQ1 := Lib.hid ((HQ1.out.put (n := w.heap.size + 1) ⟨A1, c1, A2, c2, A3, c3, A4, c4, A5, c5⟩ g (by omega)).base (b' := w.heap.size) (by omega))
  replace HQ2 := Lib.hid ((HQ2.out.put (n := w.heap.size + 1) ⟨A1, c1, A2, c2, A3, c3, A4, c4, A5, c5⟩ g HR1.out))
  replace HQ3 := Lib.hid ((HQ3.out.put (n := w.heap.size + 1) ⟨A1, c1, A2, c2, A3, c3, A4, c4, A5, c5⟩ g HR2.out))
  replace HQ4 := Lib.hid ((HQ4.out.put (n := w.heap.size + 1) ⟨A1, c1, A2, c2, A3, c3, A4, c4, A5, c5⟩ g HR2.out))
  replace HQ5 := Lib.hid ((HQ5.out.put (n := w.heap.size + 1) ⟨A1, c1, A2, c2, A3, c3, A4, c4, A5, c5⟩ g HR2.out))
  clear HA5
  generalize putS V5 (w.heap.size + 1) ⟨A1, c1, A2, c2, A3, c3, A4, c4, A5, c5⟩ g = V6 at *
  obtain ⟨k0, k1, k2, k3, k4, k5⟩ := HX.out.cells
  refine bodyPost_ret (v := vSt ⟨A1, c1, A2, c2, A3, c3, A4, c4, A5, c5⟩ g) (by simp [results, Try.results17, go_sem, vSt, k0, k1, k2, k3, k4, k5]) rfl ?_
  exact ⟨⟨A1, c1, A2, c2, A3, c3, A4, c4, A5, c5⟩, rfl, ⟨V1.heap.size, V2.heap.size, Nat.le_of_lt HL1.out, HS2.out, HQ1.out, HQ2.out, HQ3.out, HQ4.out, HQ5.out, HM1.out, HM2.out⟩, HZ.out⟩
end Go.Proofs.Ytdcolpmmojiffaa.Sto
