/-
  StoRLay: The given Lay: what it answers. Conditions: a store no greater than the laws look at, slices that lead to what they say.
-/
import Derived.Test.YtdcolpmmojiffaaQStoCpy
namespace Go.Proofs.Ytdcolpmmojiffaa.Sto
open Go.RowKit Leb Typ

theorem wrap_small (x : Int) (h0 : 0 ≤ x) (h1 : x ≤ 2000000) : wrap64 x = x := by unfold wrap64; omega
theorem take_one {α : Type} {L : List α} {k : Nat} {y : α} (h : ∃ h, L[k]'h = y) : L.take k ++ [y] = L.take (k + 1) := by
  obtain ⟨h1, rfl⟩ := h
  exact (List.take_succ_eq_append_getElem h1).symm
theorem lead_one (w : World) (y : Int) : Lead kI (w.alloc (.cells #[.int .i64 y] 3)) (w.heap.size + 1) (some ⟨w.heap.size, 0, none⟩) [y] := fun _ => ⟨w.heap.size, 0, rfl, by omega, fun j hj => by
  have : j = 0 := by simpa using hj
  subst this
  unfold World.cell?
  rw [heap_alloc_new]
  rfl⟩
set_option maxRecDepth 100000 in
set_option maxHeartbeats 8000000 in
theorem rlay_any (B : Nat) (p : PSt) (g : GSt) (A : Option Addr) (f : List Int) (c a fr n : Nat) (w : World) (hst' : StF w B p g) (hB : B ≤ w.heap.size) (hti : g.tiny) (hb : Ints w w.heap.size A f) (hcr : f.length ≤ c) (hc0 : A = none → c = 0) (hbl : f.length ≤ 1000) (ha : a ≤ 18446744073709551615) (hfr : fr ≤ 18446744073709551615) (hn : n ≤ 18446744073709551615) :
    Calls Try.prog 9 #[vSt p g, .slice A f.length c, .int .u64 (a : Int), .int .u64 (fr : Int), .int .u64 (n : Int)] w fun e w' => ∃ p', e = .returned (.tuple #[vSt p' (layG g f a fr n).1, .bool (layG g f a fr n).2]) ∧ FarF (fun b => b < B ∨ w.heap.size ≤ b) w' p' (layG g f a fr n).1 ∧ Below w.heap.size w w' := by
  have HST' := Lib.hid (And.intro hst' hB)
  have hst : StF w w.heap.size p g := hst'.moreB hB
  have HST := Lib.hid hst
  have HFI : Hid (g.mem.length ≤ 1000000 ∧ g.tab.length ≤ 1000000 ∧ g.glo.length ≤ 1000000 ∧ g.els.length ≤ 1000000 ∧ g.dat.length ≤ 1000000) := Lib.hid (by have := hti; unfold GSt.tiny at this; omega)
  have HB : Hid (Lead kI w w.heap.size A f ∧ f.length ≤ c ∧ (A = none → c = 0)) := Lib.hid ⟨ints_lead hb, hcr, hc0⟩
  have HMY : Hid (∀ x ∈ g.mem, x < 256) := Lib.hid hst.l.mem.1
  have HN := Lib.hid (And.intro hbl (And.intro ha (And.intro hfr hn)))
  have HR1 : Hid (∀ V x, roomB fr n f.length = x → Calls Try.prog 19 #[.int .u64 (fr : Int), .int .u64 (n : Int), .int .i64 (f.length : Int)] V fun e w' => e = .returned (.bool x) ∧ w' = V) := Lib.hid fun V x hx => hx ▸ rroom_any fr n f.length V hfr hn (by omega)
  have HR2 : Hid (∀ V x, roomB a n g.tab.length = x → Calls Try.prog 19 #[.int .u64 (a : Int), .int .u64 (n : Int), .int .i64 (g.tab.length : Int)] V fun e w' => e = .returned (.bool x) ∧ w' = V) := Lib.hid fun V x hx => hx ▸ rroom_any a n g.tab.length V ha hn (by have := HFI.out; omega)
  clear hst hst' hB hti hb hcr hc0 hbl ha hfr hn
  go_enter Try.func9, Try.ntmps9
  go_upto_region 1 with fail
  refine (show ∀ U, AN w U w.heap.size p g → Code.wp _ _ _ _ U from fun V0 hF => ?_) _ ?_
  rotate_left
  · refine ⟨((Below.refl _ _).alloc (Nat.le_refl _) _).alloc (by simp) _, Nat.le_refl _, boxs_past (boxs_new w p g) _, ?_⟩
    have hz : (w.alloc (.cells (vSt p g).cells 27)).heap.size = w.heap.size + 1 := by simp
    rw [← hz]
    have := boxs_new (w.alloc (.cells (vSt p g).cells 27)) ⟨none, 0, none, 0, none, 0, none, 0, none, 0⟩ zeroG
    exact this
  have HA0 := Lib.hid hF
  clear hF
  obtain ⟨k0, k1, k2, k3, k4, k5⟩ := HA0.out.box.cells
  cases hr1 : roomB fr n f.length with
  | false =>
    have HOK : Hid (¬ (fr + n ≤ f.length ∧ a + n ≤ g.tab.length)) := Lib.hid fun h => by
      have := (roomB_iff fr n f.length).2 h.1
      rw [hr1] at this
      cases this
    have H1 := Lib.hid (HR1.out V0 false hr1)
    go_wp2_with fail
    refine H1.out.mono ?_
    rintro en V ⟨rfl, rfl⟩
    rename World => V0
    clear k0 k1 k2 k3 k4 k5
    obtain ⟨k0, k1, k2, k3, k4, k5⟩ := HA0.out.box.cells
    obtain ⟨r0, r1, r2, r3, r4, r5⟩ := HA0.out.res.cells
    simp only [show zeroG.mem.length = 0 from rfl, show zeroG.taf.length = 0 from rfl, show zeroG.glo.length = 0 from rfl, show zeroG.els.length = 0 from rfl, show zeroG.dat.length = 0 from rfl, show zeroG.cap = 0 from rfl] at r0 r1 r2 r3 r4 r5
    have fr' := fun i => HA0.out.res.free i
    have f0 := fr' 0
    have f1 := fr' 1
    have f2 := fr' 2
    have f3 := fr' 3
    have f4 := fr' 4
    have f5 := fr' 5
    clear fr'
    go_wp2
    clear k0 k1 k2 k3 k4 k5 r0 r1 r2 r3 r4 r5 f0 f1 f2 f3 f4 f5
    change bodyPost _ _ _ _ _ (putS V0 (w.heap.size + 1) zeroP zeroG)
    have HX := Lib.hid (HA0.out.res.put zeroP zeroG)
    have HZ := Lib.hid (below_put (n := w.heap.size + 1) HA0.out.b zeroP zeroG (by omega))
    clear HA0
    generalize putS V0 (w.heap.size + 1) zeroP zeroG = V4 at *
    obtain ⟨k0, k1, k2, k3, k4, k5⟩ := HX.out.cells
    refine bodyPost_ret (v := .tuple #[vSt zeroP zeroG, .bool false]) (by simp [results, Try.results9, go_sem, vSt, k0, k1, k2, k3, k4, k5]) rfl ?_
    have e1 : layG g f a fr n = (zeroG, false) := if_neg HOK.out
    rw [e1]
    exact ⟨zeroP, rfl, zero_far V4 _, HZ.out⟩
  | true =>
  have h1 := (roomB_iff fr n f.length).1 hr1
  have H1 := Lib.hid (HR1.out V0 true hr1)
  cases hr2 : roomB a n g.tab.length with
  | false =>
    have HOK : Hid (¬ (fr + n ≤ f.length ∧ a + n ≤ g.tab.length)) := Lib.hid fun h => by
      have := (roomB_iff a n g.tab.length).2 h.2
      rw [hr2] at this
      cases this
    have H2 := Lib.hid (HR2.out V0 false hr2)
    clear h1
    go_wp2_with fail
    refine H1.out.mono ?_
    rintro en V ⟨rfl, rfl⟩
    rename World => V0
    go_wp2_with fail
    refine H2.out.mono ?_
    rintro en V ⟨rfl, rfl⟩
    rename World => V0
    clear k0 k1 k2 k3 k4 k5
    obtain ⟨k0, k1, k2, k3, k4, k5⟩ := HA0.out.box.cells
    obtain ⟨r0, r1, r2, r3, r4, r5⟩ := HA0.out.res.cells
    simp only [show zeroG.mem.length = 0 from rfl, show zeroG.taf.length = 0 from rfl, show zeroG.glo.length = 0 from rfl, show zeroG.els.length = 0 from rfl, show zeroG.dat.length = 0 from rfl, show zeroG.cap = 0 from rfl] at r0 r1 r2 r3 r4 r5
    have fr' := fun i => HA0.out.res.free i
    have f0 := fr' 0
    have f1 := fr' 1
    have f2 := fr' 2
    have f3 := fr' 3
    have f4 := fr' 4
    have f5 := fr' 5
    clear fr'
    go_wp2
    clear k0 k1 k2 k3 k4 k5 r0 r1 r2 r3 r4 r5 f0 f1 f2 f3 f4 f5
    change bodyPost _ _ _ _ _ (putS V0 (w.heap.size + 1) zeroP zeroG)
    have HX := Lib.hid (HA0.out.res.put zeroP zeroG)
    have HZ := Lib.hid (below_put (n := w.heap.size + 1) HA0.out.b zeroP zeroG (by omega))
    clear HA0
    generalize putS V0 (w.heap.size + 1) zeroP zeroG = V4 at *
    obtain ⟨k0, k1, k2, k3, k4, k5⟩ := HX.out.cells
    refine bodyPost_ret (v := .tuple #[vSt zeroP zeroG, .bool false]) (by simp [results, Try.results9, go_sem, vSt, k0, k1, k2, k3, k4, k5]) rfl ?_
    have e1 : layG g f a fr n = (zeroG, false) := if_neg HOK.out
    rw [e1]
    exact ⟨zeroP, rfl, zero_far V4 _, HZ.out⟩
  | true =>
  have h2 := (roomB_iff a n g.tab.length).1 hr2
  have H2 := Lib.hid (HR2.out V0 true hr2)
  have HOK := Lib.hid (And.intro h1 h2)
  have HSZ0 : Hid (V0.heap.size ≤ V0.heap.size) := Lib.hid (Nat.le_refl _)
  have HLT := Lib.hid HA0.out.res.lt
  have HT : Hid (g.tab.length ≤ 1000000) := Lib.hid HFI.out.2.1
  have hw2 : IntKind.u64.wrap ((a : Int) + (n : Int)) = (a : Int) + (n : Int) := by have := HFI.out; rw [IntKind.wrap_u64]; omega
  have HW2 := Lib.hid hw2
  clear h1 h2 hw2
  go_wp2_with fail
  refine H1.out.mono ?_
  rintro en V ⟨rfl, rfl⟩
  rename World => V0
  go_wp2_with fail
  refine H2.out.mono ?_
  rintro en V ⟨rfl, rfl⟩
  rename World => V0
  clear H1 H2 HR1 HR2
  go_wp2_with fail
  have HOV : Hid ((overL g.tab f a fr n).length = g.tab.length) := Lib.hid (overL_length HOK.out.1 HOK.out.2)
  go_loopw [12, 13] (fun o i wr => ∃ k : Nat, k ≤ g.tab.length ∧ i = .int .i64 (k : Int) ∧ Hid (OwnK kI wr V0.heap.size o ((overL g.tab f a fr n).take k)) ∧ Hid (AN w wr w.heap.size p g ∧ V0.heap.size ≤ wr.heap.size)) (fun _ i _ => g.tab.length - (intOf i).toNat)
  case atStart => exact ⟨0, Nat.zero_le _, rfl, Lib.hid (OwnK.nil _ _), Lib.hid ⟨HA0.out, Nat.le_refl _⟩⟩
  case round =>
    obtain ⟨k, hk, rfl, hown, han'⟩ := hrel
    have han := Lib.hid han'.out.1
    have HSZ := Lib.hid han'.out.2
    clear han' k0 k1 k2 k3 k4 k5
    rename_i u12 u14
    by_cases hlt : k < g.tab.length
    · obtain ⟨bt, ot, e2, hbt, hcs⟩ := HST.out.l.tab (by omega)
      have hc : wr.cell? ⟨bt, ot + k, none⟩ = some (.int .i64 g.tab[k]) := (han.out.b.cell hbt).trans (hcs k hlt)
      obtain ⟨k0, k1, k2, k3, k4, k5⟩ := han.out.box.cells
      rw [e2] at k2
      clear e2
      obtain ⟨y0, hy0⟩ : ∃ y0, y0 = g.tab[k] := ⟨_, rfl⟩
      rw [← hy0] at hc
      have HY0 := Lib.hid hy0
      have hkw : IntKind.u64.wrap (k : Int) = (k : Int) := by have := HT.out; rw [IntKind.wrap_u64]; omega
      have hli : (k : Int) < (g.tab.length : Int) := by omega
      have hw2 := HW2.out
      have HK := Lib.hid hlt
      have HWK : Hid (wrap64 ((k : Int) + 1) = (k : Int) + 1) := Lib.hid (wrap_small _ (by omega) (by have := HT.out; omega))
      have HKL : Hid (((overL g.tab f a fr n).take k).length = k) := Lib.hid (by rw [List.length_take, HOV.out]; omega)
      clear hcs hy0 hbt hk
      by_cases ha1 : a ≤ k
      · by_cases hb1 : k < a + n
        · have ha1' : (a : Int) ≤ (k : Int) := by omega
          have hb1' : (k : Int) < (a : Int) + (n : Int) := by omega
          obtain ⟨j, hj⟩ : ∃ j, j = k - a + fr := ⟨_, rfl⟩
          have hjl : j < f.length := by have := HOK.out; omega
          obtain ⟨bf, of, e3, hbf, hcf⟩ := HB.out.1 (by omega)
          subst e3
          have hc3 : wr.cell? ⟨bf, of + j, none⟩ = some (kI.v f[j]) := (han.out.b.cell hbf).trans (hcf j hjl)
          obtain ⟨y, hy⟩ : ∃ y, y = f[j] := ⟨_, rfl⟩
          have hc4 : wr.cell? ⟨bf, of + j, none⟩ = some (.int .i64 y) := by rw [hy]; exact hc3
          have hw5 : IntKind.u64.wrap ((k : Int) - (a : Int)) = (k : Int) - (a : Int) := by have := HT.out; rw [IntKind.wrap_u64]; omega
          have hw6 : IntKind.u64.wrap ((k : Int) - (a : Int) + (fr : Int)) = (j : Int) := by have := HT.out; have := HN.out; rw [IntKind.wrap_u64]; omega
          have hjl' : (j : Int) < (f.length : Int) := by omega
          have HY : Hid (∃ h, (overL g.tab f a fr n)[k]'h = y) := Lib.hid ⟨by rw [HOV.out]; exact HK.out, by
            have h7 := (overL_get HOK.out.1 HOK.out.2 HK.out (by rw [HOV.out]; exact HK.out)).1 ⟨ha1, hb1⟩
            rw [h7, hy]
            congr 1
            omega⟩
          clear hc3 hcf hbf hy hj hjl ha1 hb1
          go_wp2_with (at_builtin; refine app_k kI rfl (.tmp 64) (.tmp 66) rfl V0.heap.size u12 ((overL g.tab f a fr n).take k) rfl (hown.out.keep ((Below.refl _ _).alloc (Nat.le_refl _) _) (Nat.le_refl _)) (some ⟨wr.heap.size, 0, none⟩) [y] 1 1 (wr.heap.size + 1) (k + 1) rfl rfl (lead_one wr y) (fun h => by cases h) (by rw [List.length_append, HKL.out]; rfl) (by have := HFI.out; have := HK.out; omega) (by have := HSZ.out; simp; omega) ?_; intro A9 c9 V9 ho9 hl9 hr9 hn9 hb9; have HO9 := Lib.hid ho9; have HB9 := Lib.hid hb9; clear ho9 hl9 hr9 hn9 hb9)
          go_roundw
          case rel =>
            have hx : Below V0.heap.size wr V9 := ((Below.refl _ _).alloc HSZ.out _).trans HB9.out
            have ht := HT.out
            have hk := HK.out
            try rw [HWK.out]
            first
              | exact ⟨k + 1, by omega, by go_num, Lib.hid (by rw [← take_one HY.out]; exact HO9.out.keep (Below.refl _ _) (Nat.le_refl _)), Lib.hid ⟨⟨han.out.b.trans (hx.mono (by have := HLT.out; omega)), Nat.le_refl _, han.out.box.keep hx (by have := HLT.out; omega), han.out.res.keep hx HLT.out⟩, Nat.le_trans HSZ.out (by have := HB9.out.size; simp at this; omega)⟩⟩
              | ((repeat apply Exists.intro); exact ⟨⟨k + 1, by omega, by go_num, Lib.hid (by rw [← take_one HY.out]; exact HO9.out.keep (Below.refl _ _) (Nat.le_refl _)), Lib.hid ⟨⟨han.out.b.trans (hx.mono (by have := HLT.out; omega)), Nat.le_refl _, han.out.box.keep hx (by have := HLT.out; omega), han.out.res.keep hx HLT.out⟩, Nat.le_trans HSZ.out (by have := HB9.out.size; simp at this; omega)⟩⟩, rfl⟩)
          case measure =>
            have ht := HT.out
            have hk := HK.out
            try simp only [HWK.out]
            show g.tab.length - (intOf (.int .i64 ((k : Int) + 1))).toNat < g.tab.length - (intOf (.int .i64 (k : Int))).toNat
            simp only [intOf]
            omega
        · have ha1' : (a : Int) ≤ (k : Int) := by omega
          have hb1' : ¬ (k : Int) < (a : Int) + (n : Int) := by omega
          have HY : Hid (∃ h, (overL g.tab f a fr n)[k]'h = y0) := Lib.hid ⟨by rw [HOV.out]; exact HK.out, by
            have h7 := (overL_get HOK.out.1 HOK.out.2 HK.out (by rw [HOV.out]; exact HK.out)).2 (by omega)
            rw [h7, HY0.out]⟩
          clear ha1 hb1
          go_wp2_with (at_builtin; refine app_k kI rfl (.tmp 64) (.tmp 66) rfl V0.heap.size u12 ((overL g.tab f a fr n).take k) rfl (hown.out.keep ((Below.refl _ _).alloc (Nat.le_refl _) _) (Nat.le_refl _)) (some ⟨wr.heap.size, 0, none⟩) [y0] 1 1 (wr.heap.size + 1) (k + 1) rfl rfl (lead_one wr y0) (fun h => by cases h) (by rw [List.length_append, HKL.out]; rfl) (by have := HFI.out; have := HK.out; omega) (by have := HSZ.out; simp; omega) ?_; intro A9 c9 V9 ho9 hl9 hr9 hn9 hb9; have HO9 := Lib.hid ho9; have HB9 := Lib.hid hb9; clear ho9 hl9 hr9 hn9 hb9)
          go_roundw
          case rel =>
            have hx : Below V0.heap.size wr V9 := ((Below.refl _ _).alloc HSZ.out _).trans HB9.out
            have ht := HT.out
            have hk := HK.out
            try rw [HWK.out]
            first
              | exact ⟨k + 1, by omega, by go_num, Lib.hid (by rw [← take_one HY.out]; exact HO9.out.keep (Below.refl _ _) (Nat.le_refl _)), Lib.hid ⟨⟨han.out.b.trans (hx.mono (by have := HLT.out; omega)), Nat.le_refl _, han.out.box.keep hx (by have := HLT.out; omega), han.out.res.keep hx HLT.out⟩, Nat.le_trans HSZ.out (by have := HB9.out.size; simp at this; omega)⟩⟩
              | ((repeat apply Exists.intro); exact ⟨⟨k + 1, by omega, by go_num, Lib.hid (by rw [← take_one HY.out]; exact HO9.out.keep (Below.refl _ _) (Nat.le_refl _)), Lib.hid ⟨⟨han.out.b.trans (hx.mono (by have := HLT.out; omega)), Nat.le_refl _, han.out.box.keep hx (by have := HLT.out; omega), han.out.res.keep hx HLT.out⟩, Nat.le_trans HSZ.out (by have := HB9.out.size; simp at this; omega)⟩⟩, rfl⟩)
          case measure =>
            have ht := HT.out
            have hk := HK.out
            try simp only [HWK.out]
            show g.tab.length - (intOf (.int .i64 ((k : Int) + 1))).toNat < g.tab.length - (intOf (.int .i64 (k : Int))).toNat
            simp only [intOf]
            omega
      · have ha1' : ¬ (a : Int) ≤ (k : Int) := by omega
        have HY : Hid (∃ h, (overL g.tab f a fr n)[k]'h = y0) := Lib.hid ⟨by rw [HOV.out]; exact HK.out, by
          have h7 := (overL_get HOK.out.1 HOK.out.2 HK.out (by rw [HOV.out]; exact HK.out)).2 (by omega)
          rw [h7, HY0.out]⟩
        clear ha1
        go_wp2_with (at_builtin; refine app_k kI rfl (.tmp 64) (.tmp 66) rfl V0.heap.size u12 ((overL g.tab f a fr n).take k) rfl (hown.out.keep ((Below.refl _ _).alloc (Nat.le_refl _) _) (Nat.le_refl _)) (some ⟨wr.heap.size, 0, none⟩) [y0] 1 1 (wr.heap.size + 1) (k + 1) rfl rfl (lead_one wr y0) (fun h => by cases h) (by rw [List.length_append, HKL.out]; rfl) (by have := HFI.out; have := HK.out; omega) (by have := HSZ.out; simp; omega) ?_; intro A9 c9 V9 ho9 hl9 hr9 hn9 hb9; have HO9 := Lib.hid ho9; have HB9 := Lib.hid hb9; clear ho9 hl9 hr9 hn9 hb9)
        go_roundw
        case rel =>
          have hx : Below V0.heap.size wr V9 := ((Below.refl _ _).alloc HSZ.out _).trans HB9.out
          have ht := HT.out
          have hk := HK.out
          try rw [HWK.out]
          first
            | exact ⟨k + 1, by omega, by go_num, Lib.hid (by rw [← take_one HY.out]; exact HO9.out.keep (Below.refl _ _) (Nat.le_refl _)), Lib.hid ⟨⟨han.out.b.trans (hx.mono (by have := HLT.out; omega)), Nat.le_refl _, han.out.box.keep hx (by have := HLT.out; omega), han.out.res.keep hx HLT.out⟩, Nat.le_trans HSZ.out (by have := HB9.out.size; simp at this; omega)⟩⟩
            | ((repeat apply Exists.intro); exact ⟨⟨k + 1, by omega, by go_num, Lib.hid (by rw [← take_one HY.out]; exact HO9.out.keep (Below.refl _ _) (Nat.le_refl _)), Lib.hid ⟨⟨han.out.b.trans (hx.mono (by have := HLT.out; omega)), Nat.le_refl _, han.out.box.keep hx (by have := HLT.out; omega), han.out.res.keep hx HLT.out⟩, Nat.le_trans HSZ.out (by have := HB9.out.size; simp at this; omega)⟩⟩, rfl⟩)
        case measure =>
          have ht := HT.out
          have hk := HK.out
          try simp only [HWK.out]
          show g.tab.length - (intOf (.int .i64 ((k : Int) + 1))).toNat < g.tab.length - (intOf (.int .i64 (k : Int))).toNat
          simp only [intOf]
          omega
    · have hk2 : k = g.tab.length := by omega
      have hli : ¬ (k : Int) < (g.tab.length : Int) := by omega
      obtain ⟨gt, hgt⟩ : ∃ gt, gt = overL g.tab f a fr n := ⟨_, rfl⟩
      have HGT := Lib.hid hgt
      have hown2 : OwnK kI wr V0.heap.size u12 gt := by
        have h := hown.out
        rw [List.take_of_length_le (by rw [HOV.out]; omega), ← hgt] at h
        exact h
      obtain ⟨A5, c5, e5, -⟩ := hown2.lead
      subst e5
      have HQ := Lib.hid hown2
      clear hown2 hown hgt hk2 hlt
      obtain ⟨k0, k1, k2, k3, k4, k5⟩ := han.out.box.cells
      have f0 := han.out.box.free 2
      go_upto_region 12 with fail
      have HA4 : Hid (AN w (wr.setCell ⟨w.heap.size, 2, none⟩ (.slice A5 gt.length c5)) w.heap.size { p with A2 := A5, c2 := c5 } { g with tab := gt }) := Lib.hid (han.out.step (Below.refl _ _) 2 _ (fun h => h.set2 gt A5 c5))
      have HS4 : Hid (OwnK kI (wr.setCell ⟨w.heap.size, 2, none⟩ (.slice A5 gt.length c5)) V0.heap.size (.slice A5 gt.length c5) gt) := Lib.hid (HQ.out.setCell _ (by have := HLT.out; omega))
      clear HQ f0 k0 k1 k2 k3 k4 k5 han
      generalize (wr.setCell ⟨w.heap.size, 2, none⟩ (.slice A5 gt.length c5)) = V4 at *
      obtain ⟨k0, k1, k2, k3, k4, k5⟩ := HA4.out.box.cells
      obtain ⟨r0, r1, r2, r3, r4, r5⟩ := HA4.out.res.cells
      simp only [show zeroG.mem.length = 0 from rfl, show zeroG.tab.length = 0 from rfl, show zeroG.glo.length = 0 from rfl, show zeroG.els.length = 0 from rfl, show zeroG.dat.length = 0 from rfl, show zeroG.cap = 0 from rfl] at r0 r1 r2 r3 r4 r5
      have fr' := fun i => HA4.out.res.free i
      have f0 := fr' 0
      have f1 := fr' 1
      have f2 := fr' 2
      have f3 := fr' 3
      have f4 := fr' 4
      have f5 := fr' 5
      clear fr'
      go_wp2
      clear k0 k1 k2 k3 k4 k5 r0 r1 r2 r3 r4 r5 f0 f1 f2 f3 f4 f5
      change bodyPost _ _ _ _ _ (putS V4 (w.heap.size + 1) { p with A2 := A5, c2 := c5 } { g with tab := gt })
      have HX := Lib.hid (HA4.out.res.put { p with A2 := A5, c2 := c5 } { g with tab := gt })
      have HZ := Lib.hid (below_put (n := w.heap.size + 1) HA4.out.b { p with A2 := A5, c2 := c5 } { g with tab := gt } (by omega))
      have HS5 := Lib.hid (HS4.out.put (n := w.heap.size + 1) { p with A2 := A5, c2 := c5 } { g with tab := gt } HLT.out)
      clear HA4 HS4
      generalize putS V4 (w.heap.size + 1) { p with A2 := A5, c2 := c5 } { g with tab := gt } = V5 at *
      obtain ⟨k0, k1, k2, k3, k4, k5⟩ := HX.out.cells
      simp only at k0 k1 k2 k3 k4 k5
      refine bodyPost_ret (v := .tuple #[vSt { p with A2 := A5, c2 := c5 } { g with tab := gt }, .bool true]) (by simp [results, Try.results9, go_sem, vSt, k0, k1, k2, k3, k4, k5]) rfl ?_
      have e1 : layG g f a fr n = ({ g with tab := gt }, true) := (if_pos HOK.out).trans (by rw [HGT.out])
      rw [e1]
      refine ⟨_, rfl, ?_, HZ.out⟩
      obtain ⟨-, b1, c1'⟩ := lead_own HS5.out
      have hs : FarF (fun b => b < B ∨ w.heap.size ≤ b) V5 p g := FarF.of (HST'.out.1.below (HZ.out.mono HST'.out.2)) (Nat.le_trans HST'.out.2 HZ.out.size) fun _ h => .inl h
      have hok : ∀ b, V0.heap.size ≤ b → b < B ∨ w.heap.size ≤ b := fun b hb => .inr (by have := HLT.out; omega)
      exact ⟨hs.mem, own_ok HS5.out hok, hs.glo, hs.els, hs.dat, hs.by', ⟨hs.r.m, b1, hs.r.n, hs.r.e, hs.r.d, hs.r.m0, c1', hs.r.n0, hs.r.e0, hs.r.d0⟩⟩
end Go.Proofs.Ytdcolpmmojiffaa.Sto
