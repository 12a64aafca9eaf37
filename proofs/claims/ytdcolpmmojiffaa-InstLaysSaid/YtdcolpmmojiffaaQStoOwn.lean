/-
  StoOwn: inst.Put, Lay, Grow: what they answer. Conditions: a store that is no greater than the laws look at, slices that lead to what they say.
-/
import Derived.Test.YtdcolpmmojiffaaQStoLay
namespace Go.Proofs.Ytdcolpmmojiffaa.Sto
open Go.RowKit Leb Typ

theorem lead_own {α : Type} {K : Kd α} {w : World} {B : Nat} {A : Option Addr} {n c : Nat} {l : List α} (h : OwnK K w B (.slice A n c) l) : Lead K w w.heap.size A l ∧ l.length ≤ c ∧ (A = none → c = 0) := by
  obtain ⟨A', c', e, h1, h2, h3⟩ := h.lead
  injection e with e1 e2 e3
  subst e1 e3
  exact ⟨h1, h2, h3⟩
theorem OwnK.grown {α : Type} {K : Kd α} {w w' : World} {B : Nat} {v : Value} {l : List α} (h : OwnK K w B v l) {row : Option Nat} (hg : w.grownBy w' row) (hrow : ∀ k, v.ownBlock = some k → some k ≠ row) : OwnK K w' B v l := by
  refine ⟨h.1, ?_⟩
  have hlt := h.lt
  rcases h.2 with ⟨rfl, h0⟩ | ⟨g, cap, cur, rfl, h1, h2, h3, h4, h5⟩
  · exact .inl ⟨rfl, h0⟩
  · exact .inr ⟨g, cap, cur, rfl, h1, (hg.block g (hlt g rfl).2 (hrow g rfl)).trans h2, h3, h4, h5⟩
theorem OwnK.rebase {α : Type} {K : Kd α} {w : World} {B B' : Nat} {v : Value} {l : List α} (h : OwnK K w B v l) (hB : ∀ k, v.ownBlock = some k → B' ≤ k) : OwnK K w B' v l := by
  refine ⟨h.1, ?_⟩
  rcases h.2 with ⟨rfl, h0⟩ | ⟨g, cap, cur, rfl, h1, h2⟩
  · exact .inl ⟨rfl, h0⟩
  · exact .inr ⟨g, cap, cur, rfl, hB g rfl, h2⟩
theorem OwnS.stf {B : Nat} {w : World} {p : PSt} {g : GSt} (h : OwnS B w p g) (hb : ∀ x ∈ g.mem, x < 256) : StF w w.heap.size p g := by
  obtain ⟨B1, B2, -, -, h1, h2, h3, h4, h5, -, -⟩ := h.own
  obtain ⟨a1, b1, c1⟩ := lead_own h1
  obtain ⟨a2, b2, c2⟩ := lead_own h2
  obtain ⟨a3, b3, c3⟩ := lead_own h3
  obtain ⟨a4, b4, c4⟩ := lead_own h4
  obtain ⟨a5, b5, c5⟩ := lead_own h5
  exact ⟨⟨lead_bytes hb a1, lead_ints a2, lead_nums a3, lead_bools a4, lead_bools a5⟩, ⟨b1, b2, b3, b4, b5, c1, c2, c3, c4, c5⟩⟩
theorem OwnS.put {B : Nat} {w : World} {p : PSt} {g : GSt} (h : OwnS B w p g) {n : Nat} (p' : PSt) (g' : GSt) (hn : n < B) : OwnS B (putS w n p' g') p g := by
  obtain ⟨B1, B2, hB1, hB2, h1, h2, h3, h4, h5, h6, h7⟩ := h.own
  exact ⟨B1, B2, hB1, hB2, h1.put p' g' hn, h2.put p' g' (by omega), h3.put p' g' (by omega), h4.put p' g' (by omega), h5.put p' g' (by omega), h6, h7⟩
theorem OwnS.mem {B : Nat} {w w' : World} {p : PSt} {g : GSt} (h : OwnS B w p g) {m : List Nat} (hm : m.length = g.mem.length) (hg : w.grownBy w' (Value.slice p.A0 g.mem.length p.c0).ownBlock) (ho : OwnK kB w' B (.slice p.A0 g.mem.length p.c0) m) : OwnS B w' p { g with mem := m } := by
  obtain ⟨B1, B2, hB1, hB2, h1, h2, h3, h4, h5, h6, h7⟩ := h.own
  refine ⟨B1, B2, hB1, hB2, by rw [hm]; exact ho, h2.grown hg fun k hk e => ?_, h3.grown hg fun k hk e => ?_, h4.grown hg fun k hk e => ?_, h5.grown hg fun k hk e => ?_, by rw [hm]; exact h6, h7⟩
  · have := (h2.lt k hk).1; have := h6 k e.symm; omega
  · have := (h3.lt k hk).1; have := h6 k e.symm; omega
  · have := (h4.lt k hk).1; have := h6 k e.symm; omega
  · have := (h5.lt k hk).1; have := h6 k e.symm; omega
theorem OwnS.tab {B : Nat} {w w' : World} {p : PSt} {g : GSt} (h : OwnS B w p g) {m : List Int} (hm : m.length = g.tab.length) (hg : w.grownBy w' (Value.slice p.A2 g.tab.length p.c2).ownBlock) (ho : OwnK kI w' B (.slice p.A2 g.tab.length p.c2) m) : OwnS B w' p { g with tab := m } := by
  obtain ⟨B1, B2, hB1, hB2, h1, h2, h3, h4, h5, h6, h7⟩ := h.own
  refine ⟨B1, B2, hB1, hB2, h1.grown hg fun k hk e => ?_, by rw [hm]; exact ho.rebase fun k hk => (h2.lt k hk).1, h3.grown hg fun k hk e => ?_, h4.grown hg fun k hk e => ?_, h5.grown hg fun k hk e => ?_, h6, by rw [hm]; exact h7⟩
  · have := (h2.lt k e.symm).1; have := h6 k hk; omega
  · have := (h3.lt k hk).1; have := h7 k e.symm; omega
  · have := (h4.lt k hk).1; have := h7 k e.symm; omega
  · have := (h5.lt k hk).1; have := h7 k e.symm; omega
theorem OwnS.mems {B : Nat} {w : World} {p : PSt} {g : GSt} (h : OwnS B w p g) : OwnK kB w B (.slice p.A0 g.mem.length p.c0) g.mem := by
  obtain ⟨B1, B2, hB1, hB2, h1, -⟩ := h.own
  exact h1
theorem OwnS.tabs {B : Nat} {w : World} {p : PSt} {g : GSt} (h : OwnS B w p g) : OwnK kI w B (.slice p.A2 g.tab.length p.c2) g.tab := by
  obtain ⟨B1, B2, hB1, hB2, h1, h2, -⟩ := h.own
  exact h2.base hB1
def zeroP : PSt := ⟨none, 0, none, 0, none, 0, none, 0, none, 0⟩
theorem zero_stf (w : World) : StF w w.heap.size zeroP zeroG :=
  ⟨⟨⟨by simp [zeroG], fun h => by simp [zeroG] at h⟩, fun h => by simp [zeroG] at h, fun h => by simp [zeroG] at h, fun h => by simp [zeroG] at h, fun h => by simp [zeroG] at h⟩, ⟨Nat.le_refl _, Nat.le_refl _, Nat.le_refl _, Nat.le_refl _, Nat.le_refl _, fun _ => rfl, fun _ => rfl, fun _ => rfl, fun _ => rfl, fun _ => rfl⟩⟩
def LeadO {α : Type} (K : Kd α) (ok : Nat → Prop) (w : World) (A : Option Addr) (l : List α) : Prop :=
  0 < l.length → ∃ b off, A = some ⟨b, off, none⟩ ∧ ok b ∧ b < w.heap.size ∧ ∀ (j : Nat) (h : j < l.length), w.cell? ⟨b, off + j, none⟩ = some (K.v l[j])
theorem LeadO.keep {α : Type} {K : Kd α} {ok : Nat → Prop} {w w' : World} {A : Option Addr} {l : List α} (h : LeadO K ok w A l) (hb : Below w.heap.size w w') : LeadO K ok w' A l := fun hl => by
  obtain ⟨b, off, e, h1, h2, h3⟩ := h hl
  exact ⟨b, off, e, h1, Nat.lt_of_lt_of_le h2 hb.size, fun j hj => (hb.cell h2).trans (h3 j hj)⟩
theorem LeadO.put {α : Type} {K : Kd α} {ok : Nat → Prop} {w : World} {A : Option Addr} {l : List α} (h : LeadO K ok w A l) {n : Nat} (p : PSt) (g : GSt) (hn : ¬ ok n) : LeadO K ok (putS w n p g) A l := fun hl => by
  obtain ⟨b, off, e, h1, h2, h3⟩ := h hl
  have hne : b ≠ n := fun e => hn (e ▸ h1)
  have hb := below_put (n := n) (B := n) (Below.refl n w) p g (Nat.le_refl _)
  have key : (putS w n p g).heap[b]? = w.heap[b]? := by
    unfold putS
    exact (Below.heap_setCell _ _ _ _ hne).trans ((Below.heap_setCell _ _ _ _ hne).trans ((Below.heap_setCell _ _ _ _ hne).trans ((Below.heap_setCell _ _ _ _ hne).trans ((Below.heap_setCell _ _ _ _ hne).trans (Below.heap_setCell _ _ _ _ hne)))))
  refine ⟨b, off, e, h1, by have := hb.size; omega, fun j hj => ?_⟩
  have := h3 j hj
  unfold World.cell? at this ⊢
  rw [key]
  exact this
theorem LeadO.lead {α : Type} {K : Kd α} {ok : Nat → Prop} {w : World} {A : Option Addr} {l : List α} (h : LeadO K ok w A l) : Lead K w w.heap.size A l := fun hl => by
  obtain ⟨b, off, e, h1, h2, h3⟩ := h hl
  exact ⟨b, off, e, h2, h3⟩
theorem lead_ok {α : Type} {K : Kd α} {ok : Nat → Prop} {w : World} {B : Nat} {A : Option Addr} {l : List α} (h : Lead K w B A l) (hB : B ≤ w.heap.size) (ho : ∀ b, b < B → ok b) : LeadO K ok w A l := fun hl => by
  obtain ⟨b, off, e, h1, h2⟩ := h hl
  exact ⟨b, off, e, ho b h1, by omega, h2⟩
theorem own_ok {α : Type} {K : Kd α} {ok : Nat → Prop} {w : World} {B : Nat} {A : Option Addr} {n c : Nat} {l : List α} (h : OwnK K w B (.slice A n c) l) (ho : ∀ b, B ≤ b → ok b) : LeadO K ok w A l := fun hl => by
  obtain ⟨h1, -⟩ := lead_own h
  obtain ⟨b, off, e, h4, h5⟩ := h1 hl
  subst e
  exact ⟨b, off, rfl, ho b (h.lt b rfl).1, h4, h5⟩
structure FarF (ok : Nat → Prop) (w : World) (p : PSt) (g : GSt) : Prop where
  mem : LeadO kB ok w p.A0 g.mem
  tab : LeadO kI ok w p.A2 g.tab
  glo : LeadO kN ok w p.A3 g.glo
  els : LeadO kO ok w p.A4 g.els
  dat : LeadO kO ok w p.A5 g.dat
  by' : ∀ x ∈ g.mem, x < 256
  r : Rooms p g
theorem FarF.keep {ok : Nat → Prop} {w w' : World} {p : PSt} {g : GSt} (h : FarF ok w p g) (hb : Below w.heap.size w w') : FarF ok w' p g := ⟨h.mem.keep hb, h.tab.keep hb, h.glo.keep hb, h.els.keep hb, h.dat.keep hb, h.by', h.r⟩
theorem FarF.put {ok : Nat → Prop} {w : World} {p : PSt} {g : GSt} (h : FarF ok w p g) {n : Nat} (p' : PSt) (g' : GSt) (hn : ¬ ok n) : FarF ok (putS w n p' g') p g := ⟨h.mem.put p' g' hn, h.tab.put p' g' hn, h.glo.put p' g' hn, h.els.put p' g' hn, h.dat.put p' g' hn, h.by', h.r⟩
theorem FarF.stf {ok : Nat → Prop} {w : World} {p : PSt} {g : GSt} (h : FarF ok w p g) : StF w w.heap.size p g := ⟨⟨lead_bytes h.by' h.mem.lead, lead_ints h.tab.lead, lead_nums h.glo.lead, lead_bools h.els.lead, lead_bools h.dat.lead⟩, h.r⟩
theorem FarF.of {ok : Nat → Prop} {w : World} {B : Nat} {p : PSt} {g : GSt} (h : StF w B p g) (hB : B ≤ w.heap.size) (ho : ∀ b, b < B → ok b) : FarF ok w p g := ⟨lead_ok (bytes_lead h.l.mem) hB ho, lead_ok (ints_lead h.l.tab) hB ho, lead_ok (nums_lead h.l.glo) hB ho, lead_ok (bools_lead h.l.els) hB ho, lead_ok (bools_lead h.l.dat) hB ho, h.l.mem.1, h.r⟩
theorem FarF.imp {ok ok' : Nat → Prop} {w : World} {p : PSt} {g : GSt} (h : FarF ok w p g) (ho : ∀ b, ok b → ok' b) : FarF ok' w p g := by
  have key : ∀ {α : Type} {K : Kd α} {A : Option Addr} {l : List α}, LeadO K ok w A l → LeadO K ok' w A l := fun h hl => by
    obtain ⟨b, off, e, h1, h2⟩ := h hl
    exact ⟨b, off, e, ho b h1, h2⟩
  exact ⟨key h.mem, key h.tab, key h.glo, key h.els, key h.dat, h.by', h.r⟩
theorem OwnS.far {B : Nat} {ok : Nat → Prop} {w : World} {p : PSt} {g : GSt} (h : OwnS B w p g) (hb : ∀ x ∈ g.mem, x < 256) (ho : ∀ b, B ≤ b → ok b) : FarF ok w p g := by
  have hs := h.stf hb
  obtain ⟨B1, B2, hB1, hB2, h1, h2, h3, h4, h5, -, -⟩ := h.own
  exact ⟨own_ok h1 ho, own_ok h2 fun b hb => ho b (by omega), own_ok h3 fun b hb => ho b (by omega), own_ok h4 fun b hb => ho b (by omega), own_ok h5 fun b hb => ho b (by omega), hb, hs.r⟩
theorem zero_far (w : World) (ok : Nat → Prop) : FarF ok w zeroP zeroG :=
  ⟨fun h => by simp [zeroG] at h, fun h => by simp [zeroG] at h, fun h => by simp [zeroG] at h, fun h => by simp [zeroG] at h, fun h => by simp [zeroG] at h, by simp [zeroG], (zero_stf w).r⟩
theorem overL_mem {α : Type} {P : α → Prop} {t f : List α} {a fr n : Nat} (ht : ∀ x ∈ t, P x) (hf : ∀ x ∈ f, P x) : ∀ x ∈ overL t f a fr n, P x := fun x hx => by
  unfold overL at hx
  rcases List.mem_append.1 hx with h | h
  · exact ht x (List.mem_of_mem_take h)
  · rcases List.mem_append.1 h with h | h
    · exact hf x (List.mem_of_mem_drop (List.mem_of_mem_take h))
    · exact ht x (List.mem_of_mem_drop h)
theorem AN.put {w V V' : World} {na : Nat} {p p' : PSt} {g g' : GSt} (h : AN w V na p g) (hb : Below V.heap.size V V') : AN w (putS V' na p' g') na p' g' where
  b := below_put (h.b.trans (hb.mono h.b.size)) _ _ h.lo
  lo := h.lo
  box := (h.box.keep hb h.box.lt).put p' g'
  res := by
    have h1 := h.res.keep hb h.res.lt
    unfold putS
    exact (Below.heap_setCell _ _ _ _ (by show na + 1 ≠ na; omega)).trans ((Below.heap_setCell _ _ _ _ (by show na + 1 ≠ na; omega)).trans ((Below.heap_setCell _ _ _ _ (by show na + 1 ≠ na; omega)).trans ((Below.heap_setCell _ _ _ _ (by show na + 1 ≠ na; omega)).trans ((Below.heap_setCell _ _ _ _ (by show na + 1 ≠ na; omega)).trans ((Below.heap_setCell _ _ _ _ (by show na + 1 ≠ na; omega)).trans h1)))))
theorem AN.grown {w V V' : World} {na : Nat} {p : PSt} {g : GSt} (h : AN w V na p g) {row : Option Nat} {B : Nat} (hg : V.grownBy V' row) (hB : na + 1 < B) (hrow : ∀ k, row = some k → B ≤ k) : AN w V' na p g := by
  have hlo := h.lo
  have key : ∀ k, k < B → k < V.heap.size → V'.heap[k]? = V.heap[k]? := fun k hk hs => hg.block k hs fun e => by
    have := hrow k e.symm
    omega
  exact ⟨h.b.trans ⟨hg.os, hg.tape, hg.output, Nat.le_trans h.b.size hg.size |> fun _ => hg.size, fun k hk => key k (by omega) (by have := h.b.size; omega)⟩, h.lo, (key na (by omega) h.box.lt).trans h.box, (key (na + 1) (by omega) h.res.lt).trans h.res⟩
set_option maxRecDepth 100000 in
set_option maxHeartbeats 4000000 in
theorem put_any (p : PSt) (g : GSt) (A : Option Addr) (b : List Nat) (c a fr n : Nat) (w : World) (hst : StF w w.heap.size p g) (hti : g.tiny) (hb : Slc w w.heap.size A c b) (hbl : b.length ≤ 1000) (ha : a ≤ 18446744073709551615) (hfr : fr ≤ 18446744073709551615) (hn : n ≤ 18446744073709551615) :
    Calls Try.prog 11 #[vSt p g, .slice A b.length c, .int .u64 (a : Int), .int .u64 (fr : Int), .int .u64 (n : Int)] w fun e w' => ∃ p', e = .returned (.tuple #[vSt p' (putG g b a fr n).1, .bool (putG g b a fr n).2]) ∧ FarF (fun b => w.heap.size ≤ b) w' p' (putG g b a fr n).1 ∧ Below w.heap.size w w' := by
  have HST := Lib.hid hst
  have HFI : Hid (g.mem.length ≤ 1000000 ∧ g.tab.length ≤ 1000000 ∧ g.glo.length ≤ 1000000 ∧ g.els.length ≤ 1000000 ∧ g.dat.length ≤ 1000000) := Lib.hid (by have := hti; unfold GSt.tiny at this; omega)
  have HB : Hid (Lead kB w w.heap.size A b ∧ b.length ≤ c ∧ (A = none → c = 0)) := Lib.hid ⟨bytes_lead hb.bytes, hb.room, hb.nil⟩
  have HBY : Hid (∀ x ∈ b, x < 256) := Lib.hid hb.bytes.1
  have HMY : Hid (∀ x ∈ g.mem, x < 256) := Lib.hid hst.l.mem.1
  have HN := Lib.hid (And.intro hbl (And.intro ha (And.intro hfr hn)))
  clear hst hti hb hbl ha hfr hn
  go_enter Try.func11, Try.ntmps11
  go_upto_region 1 with fail
  refine (show ∀ U, AN w U w.heap.size p g → Code.wp _ _ _ _ U from fun V0 hF => ?_) _ ?_
  rotate_left
  · refine ⟨((Below.refl _ _).alloc (Nat.le_refl _) _).alloc (by simp) _, Nat.le_refl _, boxs_past (boxs_new w p g) _, ?_⟩
    have hz : (w.alloc (.cells (vSt p g).cells 27)).heap.size = w.heap.size + 1 := by simp
    rw [← hz]
    have := boxs_new (w.alloc (.cells (vSt p g).cells 27)) ⟨none, 0, none, 0, none, 0, none, 0, none, 0⟩ zeroG
    exact this
  have HA0 := Lib.hid hF
  clear hF
  obtain ⟨k0, k1, k2, k3, k4, k5⟩ := HA0.out.box.cells
  go_wp2_with fail
  refine (anew_any p g V0 (HST.out.upK HA0.out.b) HFI.out).mono ?_
  rintro en V1 ⟨p1, rfl, hown, hb1⟩
  have HO1 := Lib.hid hown
  have HB1 := Lib.hid hb1
  clear hown hb1 k0 k1 k2 k3 k4 k5
  obtain ⟨k0, k1, k2, k3, k4, k5⟩ := (HA0.out.box.keep HB1.out HA0.out.box.lt).cells
  have fr' := fun i => (HA0.out.box.keep HB1.out HA0.out.box.lt).free i
  have f0 := fr' 0
  have f1 := fr' 1
  have f2 := fr' 2
  have f3 := fr' 3
  have f4 := fr' 4
  have f5 := fr' 5
  clear fr'
  simp only [vSt]
  go_upto_region 2 with fail
  clear k0 k1 k2 k3 k4 k5 f0 f1 f2 f3 f4 f5
  change Code.wp _ _ _ _ (putS V1 w.heap.size p1 g)
  have HA2 := Lib.hid (HA0.out.put (p' := p1) (g' := g) HB1.out)
  have HBB : Hid (Below w.heap.size w V0) := Lib.hid HA0.out.b
  have HL := Lib.hid HA0.out.res.lt
  have HO2 := Lib.hid (HO1.out.put (n := w.heap.size) p1 g (by have := HL.out; omega))
  clear HO1 HB1 HA0
  generalize putS V1 w.heap.size p1 g = V2 at *
  obtain ⟨k0, k1, k2, k3, k4, k5⟩ := HA2.out.box.cells
  go_wp2_with fail
  refine (lay_byte p1.A0 A g.mem b p1.c0 c a fr n V0.heap.size V2 HO2.out.mems ((HB.out.1.below HA2.out.b).more HA2.out.b.size) HB.out.2.1 HB.out.2.2 (by have := HFI.out; omega) (by have := HN.out; omega) HN.out.2.1 HN.out.2.2.1 HN.out.2.2.2).mono ?_
  rintro en V3 ⟨h1, h2, h3⟩
  have HA3 : Hid (AN w V3 w.heap.size p1 g) := Lib.hid (HA2.out.grown h3 HL.out fun k hk => (HO2.out.mems.lt k hk).1)
  have H3 := Lib.hid h3
  clear h3 k0 k1 k2 k3 k4 k5 HA2
  by_cases hok : fr + n ≤ b.length ∧ a + n ≤ g.mem.length
  · obtain ⟨rfl, ho⟩ := h1 hok
    clear h2 h1
    have HOK := Lib.hid hok
    have HO3 : Hid (OwnS V0.heap.size V3 p1 { g with mem := overL g.mem b a fr n }) := Lib.hid (HO2.out.mem (overL_length hok.1 hok.2) H3.out ho)
    clear ho hok HO2 H3
    obtain ⟨k0, k1, k2, k3, k4, k5⟩ := HA3.out.box.cells
    obtain ⟨r0, r1, r2, r3, r4, r5⟩ := HA3.out.res.cells
    simp only [show zeroG.mem.length = 0 from rfl, show zeroG.tab.length = 0 from rfl, show zeroG.glo.length = 0 from rfl, show zeroG.els.length = 0 from rfl, show zeroG.dat.length = 0 from rfl, show zeroG.cap = 0 from rfl] at r0 r1 r2 r3 r4 r5
    have fr' := fun i => HA3.out.res.free i
    have f0 := fr' 0
    have f1 := fr' 1
    have f2 := fr' 2
    have f3 := fr' 3
    have f4 := fr' 4
    have f5 := fr' 5
    clear fr'
    go_wp2
    clear k0 k1 k2 k3 k4 k5 r0 r1 r2 r3 r4 r5 f0 f1 f2 f3 f4 f5
    change bodyPost _ _ _ _ _ (putS V3 (w.heap.size + 1) p1 g)
    have HX := Lib.hid (HA3.out.res.put p1 g)
    have HZ := Lib.hid (below_put (n := w.heap.size + 1) HA3.out.b p1 g (by omega))
    have HO4 := Lib.hid (HO3.out.put (n := w.heap.size + 1) p1 g HL.out)
    clear HA3 HO3
    generalize putS V3 (w.heap.size + 1) p1 g = V4 at *
    obtain ⟨k0, k1, k2, k3, k4, k5⟩ := HX.out.cells
    refine bodyPost_ret (v := .tuple #[vSt p1 g, .bool true]) (by simp [results, Try.results11, go_sem, vSt, k0, k1, k2, k3, k4, k5]) rfl ?_
    have e1 : putG g b a fr n = ({ g with mem := overL g.mem b a fr n }, true) := if_pos HOK.out
    rw [e1]
    refine ⟨p1, ?_, HO4.out.far (overL_mem HMY.out HBY.out) (fun b hb => by have := HL.out; omega), HZ.out⟩
    have e2 : (overL g.mem b a fr n).length = g.mem.length := overL_length HOK.out.1 HOK.out.2
    simp only [vSt, e2]
  · obtain rfl := h2 hok
    clear h2 h1
    have HOK := Lib.hid hok
    clear hok HO2 H3
    obtain ⟨k0, k1, k2, k3, k4, k5⟩ := HA3.out.box.cells
    obtain ⟨r0, r1, r2, r3, r4, r5⟩ := HA3.out.res.cells
    simp only [show zeroG.mem.length = 0 from rfl, show zeroG.tab.length = 0 from rfl, show zeroG.glo.length = 0 from rfl, show zeroG.els.length = 0 from rfl, show zeroG.dat.length = 0 from rfl, show zeroG.cap = 0 from rfl] at r0 r1 r2 r3 r4 r5
    have fr' := fun i => HA3.out.res.free i
    have f0 := fr' 0
    have f1 := fr' 1
    have f2 := fr' 2
    have f3 := fr' 3
    have f4 := fr' 4
    have f5 := fr' 5
    clear fr'
    go_wp2
    clear k0 k1 k2 k3 k4 k5 r0 r1 r2 r3 r4 r5 f0 f1 f2 f3 f4 f5
    change bodyPost _ _ _ _ _ (putS V3 (w.heap.size + 1) zeroP zeroG)
    have HX := Lib.hid (HA3.out.res.put zeroP zeroG)
    have HZ := Lib.hid (below_put (n := w.heap.size + 1) HA3.out.b zeroP zeroG (by omega))
    clear HA3
    generalize putS V3 (w.heap.size + 1) zeroP zeroG = V4 at *
    obtain ⟨k0, k1, k2, k3, k4, k5⟩ := HX.out.cells
    refine bodyPost_ret (v := .tuple #[vSt zeroP zeroG, .bool false]) (by simp [results, Try.results11, go_sem, vSt, k0, k1, k2, k3, k4, k5]) rfl ?_
    have e1 : putG g b a fr n = (zeroG, false) := if_neg HOK.out
    rw [e1]
    exact ⟨zeroP, rfl, zero_far V4 _, HZ.out⟩
set_option maxRecDepth 100000 in
set_option maxHeartbeats 4000000 in
theorem lay_any (p : PSt) (g : GSt) (A : Option Addr) (f : List Int) (c a fr n : Nat) (w : World) (hst : StF w w.heap.size p g) (hti : g.tiny) (hb : Ints w w.heap.size A f) (hcr : f.length ≤ c) (hc0 : A = none → c = 0) (hbl : f.length ≤ 1000) (ha : a ≤ 18446744073709551615) (hfr : fr ≤ 18446744073709551615) (hn : n ≤ 18446744073709551615) :
    Calls Try.prog 8 #[vSt p g, .slice A f.length c, .int .u64 (a : Int), .int .u64 (fr : Int), .int .u64 (n : Int)] w fun e w' => ∃ p', e = .returned (.tuple #[vSt p' (layG g f a fr n).1, .bool (layG g f a fr n).2]) ∧ FarF (fun b => w.heap.size ≤ b) w' p' (layG g f a fr n).1 ∧ Below w.heap.size w w' := by
  have HST := Lib.hid hst
  have HFI : Hid (g.mem.length ≤ 1000000 ∧ g.tab.length ≤ 1000000 ∧ g.glo.length ≤ 1000000 ∧ g.els.length ≤ 1000000 ∧ g.dat.length ≤ 1000000) := Lib.hid (by have := hti; unfold GSt.tiny at this; omega)
  have HB : Hid (Lead kI w w.heap.size A f ∧ f.length ≤ c ∧ (A = none → c = 0)) := Lib.hid ⟨ints_lead hb, hcr, hc0⟩
  clear hcr hc0
  have HMY : Hid (∀ x ∈ g.mem, x < 256) := Lib.hid hst.l.mem.1
  have HN := Lib.hid (And.intro hbl (And.intro ha (And.intro hfr hn)))
  clear hst hti hb hbl ha hfr hn
  go_enter Try.func8, Try.ntmps8
  go_upto_region 1 with fail
  refine (show ∀ U, AN w U w.heap.size p g → Code.wp _ _ _ _ U from fun V0 hF => ?_) _ ?_
  rotate_left
  · refine ⟨((Below.refl _ _).alloc (Nat.le_refl _) _).alloc (by simp) _, Nat.le_refl _, boxs_past (boxs_new w p g) _, ?_⟩
    have hz : (w.alloc (.cells (vSt p g).cells 27)).heap.size = w.heap.size + 1 := by simp
    rw [← hz]
    have := boxs_new (w.alloc (.cells (vSt p g).cells 27)) ⟨none, 0, none, 0, none, 0, none, 0, none, 0⟩ zeroG
    exact this
  have HA0 := Lib.hid hF
  clear hF
  obtain ⟨k0, k1, k2, k3, k4, k5⟩ := HA0.out.box.cells
  go_wp2_with fail
  refine (anew_any p g V0 (HST.out.upK HA0.out.b) HFI.out).mono ?_
  rintro en V1 ⟨p1, rfl, hown, hb1⟩
  have HO1 := Lib.hid hown
  have HB1 := Lib.hid hb1
  clear hown hb1 k0 k1 k2 k3 k4 k5
  obtain ⟨k0, k1, k2, k3, k4, k5⟩ := (HA0.out.box.keep HB1.out HA0.out.box.lt).cells
  have fr' := fun i => (HA0.out.box.keep HB1.out HA0.out.box.lt).free i
  have f0 := fr' 0
  have f1 := fr' 1
  have f2 := fr' 2
  have f3 := fr' 3
  have f4 := fr' 4
  have f5 := fr' 5
  clear fr'
  simp only [vSt]
  go_upto_region 2 with fail
  clear k0 k1 k2 k3 k4 k5 f0 f1 f2 f3 f4 f5
  change Code.wp _ _ _ _ (putS V1 w.heap.size p1 g)
  have HA2 := Lib.hid (HA0.out.put (p' := p1) (g' := g) HB1.out)
  have HBB : Hid (Below w.heap.size w V0) := Lib.hid HA0.out.b
  have HL := Lib.hid HA0.out.res.lt
  have HO2 := Lib.hid (HO1.out.put (n := w.heap.size) p1 g (by have := HL.out; omega))
  clear HO1 HB1 HA0
  generalize putS V1 w.heap.size p1 g = V2 at *
  obtain ⟨k0, k1, k2, k3, k4, k5⟩ := HA2.out.box.cells
  go_wp2_with fail
  refine (lay_int p1.A2 A g.tab f p1.c2 c a fr n V0.heap.size V2 HO2.out.tabs ((HB.out.1.below HA2.out.b).more HA2.out.b.size) HB.out.2.1 HB.out.2.2 (by have := HFI.out; omega) (by have := HN.out; omega) HN.out.2.1 HN.out.2.2.1 HN.out.2.2.2).mono ?_
  rintro en V3 ⟨h1, h2, h3⟩
  have HA3 : Hid (AN w V3 w.heap.size p1 g) := Lib.hid (HA2.out.grown h3 HL.out fun k hk => (HO2.out.tabs.lt k hk).1)
  have H3 := Lib.hid h3
  clear h3 k0 k1 k2 k3 k4 k5 HA2
  by_cases hok : fr + n ≤ f.length ∧ a + n ≤ g.tab.length
  · obtain ⟨rfl, ho⟩ := h1 hok
    clear h2 h1
    have HOK := Lib.hid hok
    have HO3 : Hid (OwnS V0.heap.size V3 p1 { g with tab := overL g.tab f a fr n }) := Lib.hid (HO2.out.tab (overL_length hok.1 hok.2) H3.out ho)
    clear ho hok HO2 H3
    obtain ⟨k0, k1, k2, k3, k4, k5⟩ := HA3.out.box.cells
    obtain ⟨r0, r1, r2, r3, r4, r5⟩ := HA3.out.res.cells
    simp only [show zeroG.mem.length = 0 from rfl, show zeroG.tab.length = 0 from rfl, show zeroG.glo.length = 0 from rfl, show zeroG.els.length = 0 from rfl, show zeroG.dat.length = 0 from rfl, show zeroG.cap = 0 from rfl] at r0 r1 r2 r3 r4 r5
    have fr' := fun i => HA3.out.res.free i
    have f0 := fr' 0
    have f1 := fr' 1
    have f2 := fr' 2
    have f3 := fr' 3
    have f4 := fr' 4
    have f5 := fr' 5
    clear fr'
    go_wp2
    clear k0 k1 k2 k3 k4 k5 r0 r1 r2 r3 r4 r5 f0 f1 f2 f3 f4 f5
    change bodyPost _ _ _ _ _ (putS V3 (w.heap.size + 1) p1 g)
    have HX := Lib.hid (HA3.out.res.put p1 g)
    have HZ := Lib.hid (below_put (n := w.heap.size + 1) HA3.out.b p1 g (by omega))
    have HO4 := Lib.hid (HO3.out.put (n := w.heap.size + 1) p1 g HL.out)
    clear HA3 HO3
    generalize putS V3 (w.heap.size + 1) p1 g = V4 at *
    obtain ⟨k0, k1, k2, k3, k4, k5⟩ := HX.out.cells
    refine bodyPost_ret (v := .tuple #[vSt p1 g, .bool true]) (by simp [results, Try.results8, go_sem, vSt, k0, k1, k2, k3, k4, k5]) rfl ?_
    have e1 : layG g f a fr n = ({ g with tab := overL g.tab f a fr n }, true) := if_pos HOK.out
    rw [e1]
    refine ⟨p1, ?_, HO4.out.far HMY.out (fun b hb => by have := HL.out; omega), HZ.out⟩
    have e2 : (overL g.tab f a fr n).length = g.tab.length := overL_length HOK.out.1 HOK.out.2
    simp only [vSt, e2]
  · obtain rfl := h2 hok
    clear h2 h1
    have HOK := Lib.hid hok
    clear hok HO2 H3
    obtain ⟨k0, k1, k2, k3, k4, k5⟩ := HA3.out.box.cells
    obtain ⟨r0, r1, r2, r3, r4, r5⟩ := HA3.out.res.cells
    simp only [show zeroG.mem.length = 0 from rfl, show zeroG.tab.length = 0 from rfl, show zeroG.glo.length = 0 from rfl, show zeroG.els.length = 0 from rfl, show zeroG.dat.length = 0 from rfl, show zeroG.cap = 0 from rfl] at r0 r1 r2 r3 r4 r5
    have fr' := fun i => HA3.out.res.free i
    have f0 := fr' 0
    have f1 := fr' 1
    have f2 := fr' 2
    have f3 := fr' 3
    have f4 := fr' 4
    have f5 := fr' 5
    clear fr'
    go_wp2
    clear k0 k1 k2 k3 k4 k5 r0 r1 r2 r3 r4 r5 f0 f1 f2 f3 f4 f5
    change bodyPost _ _ _ _ _ (putS V3 (w.heap.size + 1) zeroP zeroG)
    have HX := Lib.hid (HA3.out.res.put zeroP zeroG)
    have HZ := Lib.hid (below_put (n := w.heap.size + 1) HA3.out.b zeroP zeroG (by omega))
    clear HA3
    generalize putS V3 (w.heap.size + 1) zeroP zeroG = V4 at *
    obtain ⟨k0, k1, k2, k3, k4, k5⟩ := HX.out.cells
    refine bodyPost_ret (v := .tuple #[vSt zeroP zeroG, .bool false]) (by simp [results, Try.results8, go_sem, vSt, k0, k1, k2, k3, k4, k5]) rfl ?_
    have e1 : layG g f a fr n = (zeroG, false) := if_neg HOK.out
    rw [e1]
    exact ⟨zeroP, rfl, zero_far V4 _, HZ.out⟩
end Go.Proofs.Ytdcolpmmojiffaa.Sto
