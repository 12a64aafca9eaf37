/-
  CtxErr: The given Error of layer 9. Conditions: the module lies in memory, as one that came in; its lists are not too long. (Written by wip/tools/genctxerr.py.)
-/
import Derived.Test.YtlbbnnljclndkaaQCtxSeen
import Derived.Test.YtlbbnnljclndkaaQCtxLaid
import Derived.Deep.RegionHeld
import Derived.Deep.DeepCutAuto
namespace Go.Proofs.Ytlbbnnljclndkaa.Cx
open Go.RowKit Leb
open _root_.Go.Proofs.Ytlbbnnljclndkaa.Mod

theorem first_split (a b : Int) (l : List Int) : firstE (a :: b :: l) = if firstE [a, b] = 0 then firstE l else firstE [a, b] := by
  by_cases h : a = 0
  · rw [first_zero h, first_zero h, first_last]
    by_cases h2 : b = 0
    · rw [first_zero h2, if_pos h2]
    · rw [first_hit h2, if_neg h2]
  · rw [first_hit h, first_hit h, if_neg h]
theorem imp_fn {c : GCtx} {x : GImp} (h : x.kind = 0) : impE c x = tyE c x.ty := by unfold impE; rw [if_pos h]
theorem imp_tab {c : GCtx} {x : GImp} (h : x.kind = 1) : impE c x = tabE x.lim := by unfold impE; rw [if_neg (by rw [h]; decide), if_pos h]
theorem imp_mem {c : GCtx} {x : GImp} (h : x.kind = 2) : impE c x = memE x.lim := by unfold impE; rw [if_neg (by rw [h]; decide), if_neg (by rw [h]; decide), if_pos h]
theorem imp_no {c : GCtx} {x : GImp} (h0 : x.kind ≠ 0) (h1 : x.kind ≠ 1) (h2 : x.kind ≠ 2) : impE c x = 0 := by unfold impE; rw [if_neg h0, if_neg h1, if_neg h2]
theorem funcs_two {g : GMd} (hi : ∀ x ∈ g.imps, impE (gather g) x = 0) (hf : ∀ x ∈ g.funcs, tyE (gather g) x.ty = 0) : ∀ f ∈ (gather g).funcs, inB f (gather g).types.length = true := by
  have e : (gather g).funcs = (gathI g).funcs ++ g.funcs.map (fun x : GFn => x.ty) := rfl
  rw [e]
  intro f hf'
  rcases List.mem_append.1 hf' with hf' | hf'
  · exact fold_funcs (fun f => inB f (gather g).types.length = true) g.imps (gath0 g) (by simp [gath0]) (fun x hx h0 => by
      have := hi x hx
      rw [imp_fn h0] at this
      exact ty_in this) f hf'
  · obtain ⟨x, hx, rfl⟩ := List.mem_map.1 hf'
    exact ty_in (hf x hx)
theorem ty_zero {g : GMd} {t : Int} (h : inB t g.types.length = true) : tyE (gather g) t = 0 := by unfold tyE; rw [gather_types, if_pos h]
theorem ty_seven {g : GMd} {t : Int} (h : inB t g.types.length = false) : tyE (gather g) t = 7 := by unfold tyE; rw [gather_types, if_neg (by rw [h]; decide)]
/-- What a line of the functions' loop reads. -/
def SFn (bm b o : Nat) (T : Option Addr) (nt ct : Nat) (A : Option Addr) (n cx : Nat) (ty : Int) (V : World) : Prop := V.cell? ⟨bm, 2, none⟩ = some (.slice A n cx) ∧ V.cell? ⟨b, o, none⟩ = some (.int .i64 ty) ∧ V.cell? ⟨bm, 0, none⟩ = some (.slice T nt ct)
/-- What a line of the globals' loop reads. -/
def SGl (bm b o : Nat) (g : GMd) (p : Pls) (A : Option Addr) (ty : Int) (A1 : Option Addr) (n1 c1 : Nat) (V : World) : Prop := (V.cell? ⟨bm, 0, none⟩ = some (.slice p.A0 g.types.length p.c0) ∧ V.cell? ⟨bm, 1, none⟩ = some (.slice p.A1 g.imps.length p.c1) ∧ V.cell? ⟨bm, 2, none⟩ = some (.slice p.A2 g.funcs.length p.c2) ∧ V.cell? ⟨bm, 3, none⟩ = some (.slice p.A3 g.tabs.length p.c3) ∧ V.cell? ⟨bm, 4, none⟩ = some (.slice p.A4 g.mems.length p.c4) ∧ V.cell? ⟨bm, 5, none⟩ = some (.slice A g.globs.length p.c5) ∧ V.cell? ⟨bm, 6, none⟩ = some (.slice p.A6 g.expos.length p.c6) ∧ V.cell? ⟨bm, 7, none⟩ = some (.slice p.A7 g.starts.length p.c7) ∧ V.cell? ⟨bm, 8, none⟩ = some (.slice p.A8 g.els.length p.c8) ∧ V.cell? ⟨bm, 9, none⟩ = some (.slice p.A9 g.counts.length p.c9) ∧ V.cell? ⟨bm, 10, none⟩ = some (.slice p.A10 g.dats.length p.c10) ∧ V.cell? ⟨bm, 11, none⟩ = some (.slice p.A11 g.cuss.length p.c11)) ∧ V.cell? ⟨b, o, none⟩ = some (.int .i64 ty) ∧ V.cell? ⟨b, o + 2, none⟩ = some (.slice A1 n1 c1)
section
variable (g : GMd) (p : Pls) (w : World) {ok : Nat → Prop}
set_option maxRecDepth 100000 in
set_option maxHeartbeats 16000000 in
theorem rerror_any (hl : MdL w ok ok p g) (hs : Sm g) (hg : Opn.GIn g) : Calls Try.prog 8 #[.agg #[.slice p.A0 g.types.length p.c0, .slice p.A1 g.imps.length p.c1, .slice p.A2 g.funcs.length p.c2, .slice p.A3 g.tabs.length p.c3, .slice p.A4 g.mems.length p.c4, .slice p.A5 g.globs.length p.c5, .slice p.A6 g.expos.length p.c6, .slice p.A7 g.starts.length p.c7, .slice p.A8 g.els.length p.c8, .slice p.A9 g.counts.length p.c9, .slice p.A10 g.dats.length p.c10, .slice p.A11 g.cuss.length p.c11]] w (NumIs w (ofE g)) := by
  have HB : Hid (Below w.heap.size w (w.alloc (.cells #[.slice p.A0 g.types.length p.c0, .slice p.A1 g.imps.length p.c1, .slice p.A2 g.funcs.length p.c2, .slice p.A3 g.tabs.length p.c3, .slice p.A4 g.mems.length p.c4, .slice p.A5 g.globs.length p.c5, .slice p.A6 g.expos.length p.c6, .slice p.A7 g.starts.length p.c7, .slice p.A8 g.els.length p.c8, .slice p.A9 g.counts.length p.c9, .slice p.A10 g.dats.length p.c10, .slice p.A11 g.cuss.length p.c11] 33))) := Lib.hid ((Below.refl _ _).alloc (Nat.le_refl _) _)
  have HG : Hid (∀ v, Below (w.heap.size + 1) (w.alloc (.cells #[.slice p.A0 g.types.length p.c0, .slice p.A1 g.imps.length p.c1, .slice p.A2 g.funcs.length p.c2, .slice p.A3 g.tabs.length p.c3, .slice p.A4 g.mems.length p.c4, .slice p.A5 g.globs.length p.c5, .slice p.A6 g.expos.length p.c6, .slice p.A7 g.starts.length p.c7, .slice p.A8 g.els.length p.c8, .slice p.A9 g.counts.length p.c9, .slice p.A10 g.dats.length p.c10, .slice p.A11 g.cuss.length p.c11] 33)) v → BoxG w.heap.size v g p) := Lib.hid fun v hv => by
    have h0 := (hv.block w.heap.size (by omega)).trans (heap_alloc_new w _)
    refine ⟨?_, ?_, ?_, ?_, ?_, ?_, ?_, ?_, ?_, ?_, ?_, ?_⟩ <;> rw [blk_cell h0] <;> rfl
  have HSZ : Hid (w.heap.size + 1 ≤ (w.alloc (.cells #[.slice p.A0 g.types.length p.c0, .slice p.A1 g.imps.length p.c1, .slice p.A2 g.funcs.length p.c2, .slice p.A3 g.tabs.length p.c3, .slice p.A4 g.mems.length p.c4, .slice p.A5 g.globs.length p.c5, .slice p.A6 g.expos.length p.c6, .slice p.A7 g.starts.length p.c7, .slice p.A8 g.els.length p.c8, .slice p.A9 g.counts.length p.c9, .slice p.A10 g.dats.length p.c10, .slice p.A11 g.cuss.length p.c11] 33)).heap.size) := Lib.hid (by simp)
  have HLI : Hid ((∀ x ∈ g.imps, x.lim.1 ≤ 9223372036854775807 ∧ x.lim.2.2 ≤ 9223372036854775807) ∧ ∀ x ∈ g.tabs, x.1 ≤ 9223372036854775807 ∧ x.2.2 ≤ 9223372036854775807) := Lib.hid (by
    refine ⟨fun x hx => ?_, fun x hx => ?_⟩
    · obtain ⟨⟨_, h1⟩, ⟨_, h2⟩⟩ := (hg.imps.1 x hx).2.2.2.2
      constructor <;> omega
    · obtain ⟨⟨_, h1⟩, ⟨_, h2⟩⟩ := hg.tabs.1 x hx
      constructor <;> omega)
  have HL := Lib.hid hl
  have HSM := Lib.hid hs
  clear hl hs hg
  generalize hRR : ofE g = R
  have HR : Hid (firstE [eachE (impE (gather g)) g.imps, eachE (fun x : GFn => tyE (gather g) x.ty) g.funcs, eachE tabE g.tabs, eachE memE g.mems, oneE (gather g), eachE (globE (gather g)) g.globs, expE (gather g) [] g.expos, eachE (startE (gather g)) g.starts, eachE (elE (gather g)) g.els, eachE (datE (gather g)) g.dats, eachE (locE (gather g)) g.funcs] = R) := Lib.hid hRR
  clear hRR
  go_enter Try.func8, Try.ntmps8
  go_wp2_with fail
  generalize (w.alloc (.cells #[.slice p.A0 g.types.length p.c0, .slice p.A1 g.imps.length p.c1, .slice p.A2 g.funcs.length p.c2, .slice p.A3 g.tabs.length p.c3, .slice p.A4 g.mems.length p.c4, .slice p.A5 g.globs.length p.c5, .slice p.A6 g.expos.length p.c6, .slice p.A7 g.starts.length p.c7, .slice p.A8 g.els.length p.c8, .slice p.A9 g.counts.length p.c9, .slice p.A10 g.dats.length p.c10, .slice p.A11 g.cuss.length p.c11] 33)) = W0 at *
  go_loopw [3] (fun i wr => ∃ j : Nat, i = .int .i64 (j : Int) ∧ j ≤ g.imps.length ∧ Hid (Below (w.heap.size + 1) W0 wr) ∧ Hid (∀ x ∈ g.imps.take j, impE (gather g) x = 0)) (fun i _ => g.imps.length - (intOf i).toNat)
  case atStart => exact ⟨0, rfl, Nat.zero_le _, Lib.hid (Below.refl _ _), Lib.hid (by simp)⟩
  case round =>
    obtain ⟨j, rfl, hj, HI, HZ⟩ := hrel
    obtain ⟨-, y1, -, -, -, -, -, -, -, -, -, -⟩ := HG.out _ HI.out
    have hn1 : (g.imps.length : Int) ≤ 100 := by have := HSM.out.imps; omega
    by_cases hlt : j < g.imps.length
    · have hlti : (j : Int) < (g.imps.length : Int) := by omega
      obtain ⟨b, off, hA, h1⟩ := sm_imp HL.out.l1 j hlt
      obtain ⟨q0, q1, q2, q3, q4, q5, q6, q7⟩ := h1 wr (HB.out.trans (HI.out.mono (by omega)))
      rw [hA] at y1
      have HNX : Hid (impE (gather g) g.imps[j] = 0 → ∀ x ∈ g.imps.take (j + 1), impE (gather g) x = 0) := Lib.hid fun h => all_next hlt HZ.out h
      have HHT : Hid (∀ v, v ≠ 0 → impE (gather g) g.imps[j] = v → R = v) := Lib.hid fun v hv h => by rw [← HR.out, first_hit (each_ne hlt HZ.out (by rw [h]; exact hv)), each_hit hlt HZ.out (by rw [h]; exact hv), h]
      have HLM := Lib.hid (HLI.out.1 _ (List.getElem_mem hlt))
      have HM0 : Hid (g.imps[j].kind = 0 → impE (gather g) g.imps[j] = tyE (gather g) g.imps[j].ty) := Lib.hid imp_fn
      have HM1 : Hid (g.imps[j].kind = 1 → impE (gather g) g.imps[j] = tabE g.imps[j].lim) := Lib.hid imp_tab
      have HM2 : Hid (g.imps[j].kind = 2 → impE (gather g) g.imps[j] = memE g.imps[j].lim) := Lib.hid imp_mem
      have HM3 : Hid (g.imps[j].kind ≠ 0 → g.imps[j].kind ≠ 1 → g.imps[j].kind ≠ 2 → impE (gather g) g.imps[j] = 0) := Lib.hid imp_no
      clear h1 hA HZ
      generalize impE (gather g) g.imps[j] = ie at *
      generalize g.imps[j] = x at *
      obtain ⟨md, nm, kd, ty, ⟨mn, cp, mx⟩, mu⟩ := x
      simp only at q0 q1 q2 q3 q4 q5 q6 q7 HLM HM0 HM1 HM2 HM3
      have HXB : Hid (Below wr.heap.size wr (wr.alloc (.cells #[.string md, .string nm, .int .i64 kd, .int .i64 ty, .int .i64 mn, .bool cp, .int .i64 mx, .bool mu] 62)) ∧ (wr.alloc (.cells #[.string md, .string nm, .int .i64 kd, .int .i64 ty, .int .i64 mn, .bool cp, .int .i64 mx, .bool mu] 62)).heap[wr.heap.size]? = some (.cells #[.string md, .string nm, .int .i64 kd, .int .i64 ty, .int .i64 mn, .bool cp, .int .i64 mx, .bool mu] 62 (0, 0)) ∧ (wr.alloc (.cells #[.string md, .string nm, .int .i64 kd, .int .i64 ty, .int .i64 mn, .bool cp, .int .i64 mx, .bool mu] 62)).heap.size = wr.heap.size + 1 ∧ w.heap.size + 1 ≤ wr.heap.size) := Lib.hid ⟨(Below.refl _ _).alloc (Nat.le_refl _) _, heap_alloc_new wr _, by simp, by have := HI.out.size; have := HSZ.out; omega⟩
      have HV0 : Hid (Below (w.heap.size + 1) W0 (wr.alloc (.cells #[.string md, .string nm, .int .i64 kd, .int .i64 ty, .int .i64 mn, .bool cp, .int .i64 mx, .bool mu] 62))) := Lib.hid (HI.out.trans (HXB.out.1.mono HXB.out.2.2.2))
      go_upto_region 5 with fail
      clear q0 q1 q2 q3 q4 q5 q6 q7 y1
      generalize (wr.alloc (.cells #[.string md, .string nm, .int .i64 kd, .int .i64 ty, .int .i64 mn, .bool cp, .int .i64 mx, .bool mu] 62)) = V0 at *
      have HXK : Hid (∀ u, Below V0.heap.size V0 u → Below (w.heap.size + 1) W0 u ∧ u.cell? ⟨wr.heap.size, 2, none⟩ = some (.int .i64 kd) ∧ u.cell? ⟨wr.heap.size, 3, none⟩ = some (.int .i64 ty) ∧ u.cell? ⟨wr.heap.size, 4, none⟩ = some (.int .i64 mn) ∧ u.cell? ⟨wr.heap.size, 5, none⟩ = some (.bool cp) ∧ u.cell? ⟨wr.heap.size, 6, none⟩ = some (.int .i64 mx)) := Lib.hid fun u hu => by
        have h0 := (hu.block wr.heap.size (by have := HXB.out; omega)).trans HXB.out.2.1
        exact ⟨HV0.out.trans (hu.mono (by have := HXB.out; omega)), (blk_cell h0 2).trans rfl, (blk_cell h0 3).trans rfl, (blk_cell h0 4).trans rfl, (blk_cell h0 5).trans rfl, (blk_cell h0 6).trans rfl⟩
      have HTE : Hid (∀ u, Calls Try.prog 17 #[.agg #[.int .i64 mn, .bool cp, .int .i64 mx]] u (NumIs u (tabE (mn, cp, mx)))) := Lib.hid fun u => rtab_any mn mx cp HLM.out.1 HLM.out.2 u
      have HME : Hid (∀ u, Calls Try.prog 18 #[.agg #[.int .i64 mn, .bool cp, .int .i64 mx]] u (NumIs u (memE (mn, cp, mx)))) := Lib.hid fun u => rmem_any mn mx cp u
      clear HV0 HXB HLM
      generalize tabE (mn, cp, mx) = te at *
      generalize memE (mn, cp, mx) = me at *
      obtain ⟨-, k2, k3, k4, k5, k6⟩ := HXK.out V0 (Below.refl _ _)
      obtain ⟨y0, -, -, -, -, -, -, -, -, -, -, -⟩ := HG.out _ (HXK.out V0 (Below.refl _ _)).1
      by_cases h0 : kd = 0
      · subst h0
        cases hb : inB ty g.types.length with
        | false =>
          have HIN : Hid (∀ V : World, Calls Try.prog 16 #[.int .i64 ty, .int .i64 (g.types.length : Int)] V fun en w' => en = .returned (.bool false) ∧ w' = V) := Lib.hid fun V => (by
            have h := rin_any ty (g.types.length : Int) V
            have e : (decide (0 ≤ ty) && decide (ty < (g.types.length : Int))) = false := hb
            rwa [e] at h)
          have HE : Hid (R = 7) := Lib.hid (HHT.out 7 (by decide) (by rw [HM0.out (by trivial), ty_seven hb]))
          clear hb HM0 HM1 HM2 HM3 HHT HNX
          go_wp2_with fail
          refine (HIN.out _).mono ?_
          rintro en w1 ⟨rfl, rfl⟩
          go_wp2
          go_ret
          exact ⟨by rw [HE.out]; rfl, HB.out.trans ((HXK.out _ (Below.refl _ _)).1.mono (by omega))⟩
        | true =>
          have HIN : Hid (∀ V : World, Calls Try.prog 16 #[.int .i64 ty, .int .i64 (g.types.length : Int)] V fun en w' => en = .returned (.bool true) ∧ w' = V) := Lib.hid fun V => (by
            have h := rin_any ty (g.types.length : Int) V
            have e : (decide (0 ≤ ty) && decide (ty < (g.types.length : Int))) = true := hb
            rwa [e] at h)
          have HN := Lib.hid (HNX.out (by rw [HM0.out (by trivial), ty_zero hb]))
          clear hb HM0 HM1 HM2 HM3 HHT HNX
          go_wp2_with fail
          refine (HIN.out _).mono ?_
          rintro en w1 ⟨rfl, rfl⟩
          go_wp2_with fail
          refine (HTE.out _).mono ?_
          rintro en V1 ⟨rfl, hb1⟩
          have HB1 := Lib.hid hb1
          clear hb1 k2 k3 k4 k5 k6
          obtain ⟨-, k2, k3, k4, k5, k6⟩ := HXK.out V1 HB1.out
          go_wp2_with fail
          refine (HME.out _).mono ?_
          rintro en V2 ⟨rfl, hb2⟩
          have HB2 := Lib.hid (HB1.out.trans (hb2.mono HB1.out.size))
          clear hb2 k2 k3 k4 k5 k6
          obtain ⟨-, k2, k3, k4, k5, k6⟩ := HXK.out V2 HB2.out
          have HW := Lib.hid (HXK.out _ HB2.out).1
          go_wp2
          go_roundw
          case rel => exact ⟨j + 1, by go_num, by omega, HW, HN⟩
          case measure => simp [intOf]; omega
      by_cases h1 : kd = 1
      · subst h1
        go_wp2_with fail
        refine (HTE.out _).mono ?_
        rintro en V1 ⟨rfl, hb1⟩
        have HB1 := Lib.hid hb1
        clear hb1 k2 k3 k4 k5 k6
        obtain ⟨-, k2, k3, k4, k5, k6⟩ := HXK.out V1 HB1.out
        by_cases hte : te = 0
        · subst hte
          have HN := Lib.hid (HNX.out (HM1.out (by trivial)))
          clear HM0 HM1 HM2 HM3 HHT HNX
          go_wp2_with fail
          refine (HME.out _).mono ?_
          rintro en V2 ⟨rfl, hb2⟩
          have HB2 := Lib.hid (HB1.out.trans (hb2.mono HB1.out.size))
          clear hb2 k2 k3 k4 k5 k6
          obtain ⟨-, k2, k3, k4, k5, k6⟩ := HXK.out V2 HB2.out
          have HW := Lib.hid (HXK.out _ HB2.out).1
          go_wp2
          go_roundw
          case rel => exact ⟨j + 1, by go_num, by omega, HW, HN⟩
          case measure => simp [intOf]; omega
        · have HE : Hid (R = te) := Lib.hid (HHT.out te hte (HM1.out (by trivial)))
          clear HM0 HM1 HM2 HM3 HHT HNX
          go_wp2
          go_ret
          exact ⟨by rw [HE.out]; rfl, HB.out.trans ((HXK.out _ HB1.out).1.mono (by omega))⟩
      by_cases h2 : kd = 2
      · subst h2
        go_wp2_with fail
        refine (HTE.out _).mono ?_
        rintro en V1 ⟨rfl, hb1⟩
        have HB1 := Lib.hid hb1
        clear hb1 k2 k3 k4 k5 k6
        obtain ⟨-, k2, k3, k4, k5, k6⟩ := HXK.out V1 HB1.out
        go_wp2_with fail
        refine (HME.out _).mono ?_
        rintro en V2 ⟨rfl, hb2⟩
        have HB2 := Lib.hid (HB1.out.trans (hb2.mono HB1.out.size))
        clear hb2 k2 k3 k4 k5 k6
        obtain ⟨-, k2, k3, k4, k5, k6⟩ := HXK.out V2 HB2.out
        by_cases hme : me = 0
        · subst hme
          have HN := Lib.hid (HNX.out (HM2.out (by trivial)))
          clear HM0 HM1 HM2 HM3 HHT HNX
          have HW := Lib.hid (HXK.out _ HB2.out).1
          go_wp2
          go_roundw
          case rel => exact ⟨j + 1, by go_num, by omega, HW, HN⟩
          case measure => simp [intOf]; omega
        · have HE : Hid (R = me) := Lib.hid (HHT.out me hme (HM2.out (by trivial)))
          clear HM0 HM1 HM2 HM3 HHT HNX
          go_wp2
          go_ret
          exact ⟨by rw [HE.out]; rfl, HB.out.trans ((HXK.out _ HB2.out).1.mono (by omega))⟩
      have HN := Lib.hid (HNX.out (HM3.out h0 h1 h2))
      clear HM0 HM1 HM2 HM3 HHT HNX
      go_wp2_with fail
      refine (HTE.out _).mono ?_
      rintro en V1 ⟨rfl, hb1⟩
      have HB1 := Lib.hid hb1
      clear hb1 k2 k3 k4 k5 k6
      obtain ⟨-, k2, k3, k4, k5, k6⟩ := HXK.out V1 HB1.out
      go_wp2_with fail
      refine (HME.out _).mono ?_
      rintro en V2 ⟨rfl, hb2⟩
      have HB2 := Lib.hid (HB1.out.trans (hb2.mono HB1.out.size))
      clear hb2 k2 k3 k4 k5 k6
      obtain ⟨-, k2, k3, k4, k5, k6⟩ := HXK.out V2 HB2.out
      have HW := Lib.hid (HXK.out _ HB2.out).1
      go_wp2
      go_roundw
      case rel => exact ⟨j + 1, by go_num, by omega, HW, HN⟩
      case measure => simp [intOf]; omega
    · have hlti : ¬ (j : Int) < (g.imps.length : Int) := by omega
      have HZI : Hid (∀ x ∈ g.imps, impE (gather g) x = 0) := Lib.hid (all_whole hlt HZ.out)
      have HR2 : Hid (firstE [eachE (fun x : GFn => tyE (gather g) x.ty) g.funcs, eachE tabE g.tabs, eachE memE g.mems, oneE (gather g), eachE (globE (gather g)) g.globs, expE (gather g) [] g.expos, eachE (startE (gather g)) g.starts, eachE (elE (gather g)) g.els, eachE (datE (gather g)) g.dats, eachE (locE (gather g)) g.funcs] = R) := Lib.hid (by rw [← HR.out, first_zero (each_all HZI.out)])
      have HW := Lib.hid HI.out
      rename World => V2
      clear HZ HI HR
      go_wp2_with fail
      go_loopw [7] (fun i wr => ∃ j : Nat, i = .int .i64 (j : Int) ∧ j ≤ g.funcs.length ∧ Hid (Below (w.heap.size + 1) W0 wr) ∧ Hid (∀ x ∈ g.funcs.take j, tyE (gather g) x.ty = 0)) (fun i _ => g.funcs.length - (intOf i).toNat)
      case atStart => exact ⟨0, rfl, Nat.zero_le _, Lib.hid HW.out, Lib.hid (by simp)⟩
      case round =>
        clear HW
        obtain ⟨j, rfl, hj, HI, HZ⟩ := hrel
        obtain ⟨y0, -, y2, -, -, -, -, -, -, -, -, -⟩ := HG.out _ HI.out
        have hn2 : (g.funcs.length : Int) ≤ 100 := by have := HSM.out.funcs; omega
        by_cases hlt : j < g.funcs.length
        · have hlti : (j : Int) < (g.funcs.length : Int) := by omega
          obtain ⟨b, off, A1, c1, A2, c2, hA, h1⟩ := sm_fn HL.out.l2 j hlt
          have HSB : Hid (∀ u, Below (w.heap.size + 1) W0 u → (SFn w.heap.size b (off + j * 3) p.A0 g.types.length p.c0 (some ⟨b, off, none⟩) g.funcs.length p.c2 g.funcs[j].ty) u) := Lib.hid fun u hu => by
            obtain ⟨y0, -, y2, -, -, -, -, -, -, -, -, -⟩ := HG.out _ hu
            rw [hA] at y2
            exact ⟨y2, (h1 u (HB.out.trans (hu.mono (by omega)))).1, y0⟩
          have HNX : Hid (tyE (gather g) g.funcs[j].ty = 0 → ∀ x ∈ g.funcs.take (j + 1), tyE (gather g) x.ty = 0) := Lib.hid fun h => all_next hlt HZ.out h
          have HHT : Hid (tyE (gather g) g.funcs[j].ty = 7 → R = 7) := Lib.hid fun h => by rw [← HR2.out, first_hit (each_ne (f := fun x : GFn => tyE (gather g) x.ty) hlt HZ.out (by rw [h]; decide)), each_hit (f := fun x : GFn => tyE (gather g) x.ty) hlt HZ.out (by rw [h]; decide), h]
          clear h1 HZ hA
          generalize g.funcs[j].ty = ty at *
          have HD : Hid (Below (w.heap.size + 1) W0 wr.drew) := Lib.hid HI.out.drew
          have hS0 := HSB.out _ HD.out
          cases hb : inB ty g.types.length with
          | false =>
            have HIN : Hid (∀ V : World, Calls Try.prog 16 #[.int .i64 ty, .int .i64 (g.types.length : Int)] V fun en w' => en = .returned (.bool false) ∧ w' = V) := Lib.hid fun V => (by
              have h := rin_any ty (g.types.length : Int) V
              have e : (decide (0 ≤ ty) && decide (ty < (g.types.length : Int))) = false := hb
              rwa [e] at h)
            have HE : Hid (R = 7) := Lib.hid (HHT.out (ty_seven hb))
            clear hb HHT HNX
            go_wp2_with fail
            refine wp_region_held_drew (S := (SFn w.heap.size b (off + j * 3) p.A0 g.types.length p.c0 (some ⟨b, off, none⟩) g.funcs.length p.c2 ty)) (by kernel_rfl) hS0 (fun hS => ?_)
            clear hS0 y0 y2 HI
            generalize wr.drew = V at *
            refine wpAnyH_take (i := 0) (oi := { dst := some 68, op := .fieldAddr 33 (.tmp 1) 2, type := 0, pos := "ref.go:91", after := #[], guard := none }) (v := ?_) rfl (by kernel_rfl) (by kernel_rfl) (by kernel_rfl) (fun _ _ _ h => h) (Or.inl ⟨by rfl, ?_⟩) hS ?_
            rotate_left
            · (intro w' hS'; obtain ⟨s0, s1, s2⟩ := hS'; go_simp) <;> with_reducible rfl
            try simp only [Act.put, List.setIfInBounds_toArray, List.set_cons_zero, List.set_cons_succ]
            refine wpAnyH_take (i := 1) (oi := { dst := some 69, op := .load 24 (.tmp 68), type := 24, pos := "ref.go:91", after := #[{ on := 0, ground := .data }], guard := none }) (v := ?_) rfl (by kernel_rfl) (by kernel_rfl) (by kernel_rfl) (fun _ _ _ h => h) (Or.inl ⟨by rfl, ?_⟩) hS ?_
            rotate_left
            · (intro w' hS'; obtain ⟨s0, s1, s2⟩ := hS'; go_simp) <;> with_reducible rfl
            try simp only [Act.put, List.setIfInBounds_toArray, List.set_cons_zero, List.set_cons_succ]
            refine wpAnyH_take (i := 2) (oi := { dst := some 70, op := .move (.tmp 7), type := 3, pos := "ref.go:91", after := #[], guard := none }) (v := ?_) rfl (by kernel_rfl) (by kernel_rfl) (by kernel_rfl) (fun _ _ _ h => h) (Or.inl ⟨by rfl, ?_⟩) hS ?_
            rotate_left
            · (intro w' hS'; obtain ⟨s0, s1, s2⟩ := hS'; go_simp) <;> with_reducible rfl
            try simp only [Act.put, List.setIfInBounds_toArray, List.set_cons_zero, List.set_cons_succ]
            refine wpAnyH_take (i := 3) (oi := { dst := some 71, op := .indexAddr 24 (.tmp 69) (.tmp 70), type := 0, pos := "ref.go:91", after := #[{ on := 1, ground := .data }, { on := 2, ground := .data }], guard := none }) (v := ?_) rfl (by kernel_rfl) (by kernel_rfl) (by kernel_rfl) (fun _ _ _ h => h) (Or.inl ⟨by rfl, ?_⟩) hS ?_
            rotate_left
            · (intro w' hS'; obtain ⟨s0, s1, s2⟩ := hS'; go_simp) <;> with_reducible rfl
            try simp only [Act.put, List.setIfInBounds_toArray, List.set_cons_zero, List.set_cons_succ]
            refine wpAnyH_take (i := 4) (oi := { dst := some 72, op := .fieldAddr 55 (.tmp 71) 0, type := 0, pos := "ref.go:91", after := #[{ on := 3, ground := .data }], guard := none }) (v := ?_) rfl (by kernel_rfl) (by kernel_rfl) (by kernel_rfl) (fun _ _ _ h => h) (Or.inl ⟨by rfl, ?_⟩) hS ?_
            rotate_left
            · (intro w' hS'; obtain ⟨s0, s1, s2⟩ := hS'; go_simp) <;> with_reducible rfl
            try simp only [Act.put, List.setIfInBounds_toArray, List.set_cons_zero, List.set_cons_succ]
            refine wpAnyH_take (i := 5) (oi := { dst := some 73, op := .load 3 (.tmp 72), type := 3, pos := "ref.go:91", after := #[{ on := 4, ground := .data }], guard := none }) (v := ?_) rfl (by kernel_rfl) (by kernel_rfl) (by kernel_rfl) (fun _ _ _ h => h) (Or.inl ⟨by rfl, ?_⟩) hS ?_
            rotate_left
            · (intro w' hS'; obtain ⟨s0, s1, s2⟩ := hS'; go_simp) <;> with_reducible rfl
            try simp only [Act.put, List.setIfInBounds_toArray, List.set_cons_zero, List.set_cons_succ]
            refine wpAnyH_take (i := 6) (oi := { dst := some 74, op := .fieldAddr 33 (.tmp 1) 0, type := 0, pos := "ref.go:91", after := #[], guard := none }) (v := ?_) rfl (by kernel_rfl) (by kernel_rfl) (by kernel_rfl) (fun _ _ _ h => h) (Or.inl ⟨by rfl, ?_⟩) hS ?_
            rotate_left
            · (intro w' hS'; obtain ⟨s0, s1, s2⟩ := hS'; go_simp) <;> with_reducible rfl
            try simp only [Act.put, List.setIfInBounds_toArray, List.set_cons_zero, List.set_cons_succ]
            refine wpAnyH_take (i := 7) (oi := { dst := some 75, op := .load 22 (.tmp 74), type := 22, pos := "ref.go:91", after := #[{ on := 6, ground := .data }], guard := none }) (v := ?_) rfl (by kernel_rfl) (by kernel_rfl) (by kernel_rfl) (fun _ _ _ h => h) (Or.inl ⟨by rfl, ?_⟩) hS ?_
            rotate_left
            · (intro w' hS'; obtain ⟨s0, s1, s2⟩ := hS'; go_simp) <;> with_reducible rfl
            try simp only [Act.put, List.setIfInBounds_toArray, List.set_cons_zero, List.set_cons_succ]
            refine wpAnyH_take (i := 8) (oi := { dst := some 76, op := .call { callee := .builtin .len, args := #[.tmp 75], argTypes := #[22] }, type := 3, pos := "ref.go:91", after := #[{ on := 7, ground := .data }], guard := none }) (v := ?_) rfl (by kernel_rfl) (by kernel_rfl) (by kernel_rfl) (fun _ _ _ h => h) (Or.inl ⟨by rfl, ?_⟩) hS ?_
            rotate_left
            · (intro w' hS'; obtain ⟨s0, s1, s2⟩ := hS'; go_simp) <;> with_reducible rfl
            try simp only [Act.put, List.setIfInBounds_toArray, List.set_cons_zero, List.set_cons_succ]
            refine wpAnyH_ready (rs := [9]) (by kernel_rfl) (by simp) ?_
            refine AllReadyH.cons (o := { dst := some 77, op := .call { callee := .value (.func 16), args := #[.tmp 73, .tmp 76], argTypes := #[3, 3] }, type := 4, pos := "ref.go:91", after := #[{ on := 5, ground := .data }, { on := 8, ground := .data }], guard := none }) rfl (fun K' hK => ?_) (AllReadyH.nil)
            go_simp
            refine (HIN.out _).mono ?_
            rintro en V1 ⟨rfl, rfl⟩
            go_wp2_with fail
            refine hK.out _ _ (HSB.out _ HD.out) (fun hS => ?_)
            clear hK K'
            try simp only [Act.put, List.setIfInBounds_toArray, List.set_cons_zero, List.set_cons_succ]
            refine wpAnyH_take (i := 10) (oi := { dst := some 78, op := .unOp .not 4 (.tmp 77), type := 4, pos := "ref.go:91", after := #[{ on := 9, ground := .data }], guard := none }) (v := ?_) rfl (by kernel_rfl) (by kernel_rfl) (by kernel_rfl) (fun _ _ _ h => h) (Or.inl ⟨by rfl, ?_⟩) hS ?_
            rotate_left
            · (intro w' hS'; obtain ⟨s0, s1, s2⟩ := hS'; go_simp) <;> with_reducible rfl
            try simp only [Act.put, List.setIfInBounds_toArray, List.set_cons_zero, List.set_cons_succ]
            refine wpAnyH_done (by kernel_rfl) ?_ _
            go_wp2
            go_ret
            exact ⟨by rw [HE.out]; rfl, HB.out.trans (HD.out.mono (by omega))⟩
          | true =>
            have HIN : Hid (∀ V : World, Calls Try.prog 16 #[.int .i64 ty, .int .i64 (g.types.length : Int)] V fun en w' => en = .returned (.bool true) ∧ w' = V) := Lib.hid fun V => (by
              have h := rin_any ty (g.types.length : Int) V
              have e : (decide (0 ≤ ty) && decide (ty < (g.types.length : Int))) = true := hb
              rwa [e] at h)
            have HN := Lib.hid (HNX.out (ty_zero hb))
            clear hb HHT HNX
            go_wp2_with fail
            refine wp_region_held_drew (S := (SFn w.heap.size b (off + j * 3) p.A0 g.types.length p.c0 (some ⟨b, off, none⟩) g.funcs.length p.c2 ty)) (by kernel_rfl) hS0 (fun hS => ?_)
            clear hS0 y0 y2 HI
            generalize wr.drew = V at *
            refine wpAnyH_take (i := 0) (oi := { dst := some 68, op := .fieldAddr 33 (.tmp 1) 2, type := 0, pos := "ref.go:91", after := #[], guard := none }) (v := ?_) rfl (by kernel_rfl) (by kernel_rfl) (by kernel_rfl) (fun _ _ _ h => h) (Or.inl ⟨by rfl, ?_⟩) hS ?_
            rotate_left
            · (intro w' hS'; obtain ⟨s0, s1, s2⟩ := hS'; go_simp) <;> with_reducible rfl
            try simp only [Act.put, List.setIfInBounds_toArray, List.set_cons_zero, List.set_cons_succ]
            refine wpAnyH_take (i := 1) (oi := { dst := some 69, op := .load 24 (.tmp 68), type := 24, pos := "ref.go:91", after := #[{ on := 0, ground := .data }], guard := none }) (v := ?_) rfl (by kernel_rfl) (by kernel_rfl) (by kernel_rfl) (fun _ _ _ h => h) (Or.inl ⟨by rfl, ?_⟩) hS ?_
            rotate_left
            · (intro w' hS'; obtain ⟨s0, s1, s2⟩ := hS'; go_simp) <;> with_reducible rfl
            try simp only [Act.put, List.setIfInBounds_toArray, List.set_cons_zero, List.set_cons_succ]
            refine wpAnyH_take (i := 2) (oi := { dst := some 70, op := .move (.tmp 7), type := 3, pos := "ref.go:91", after := #[], guard := none }) (v := ?_) rfl (by kernel_rfl) (by kernel_rfl) (by kernel_rfl) (fun _ _ _ h => h) (Or.inl ⟨by rfl, ?_⟩) hS ?_
            rotate_left
            · (intro w' hS'; obtain ⟨s0, s1, s2⟩ := hS'; go_simp) <;> with_reducible rfl
            try simp only [Act.put, List.setIfInBounds_toArray, List.set_cons_zero, List.set_cons_succ]
            refine wpAnyH_take (i := 3) (oi := { dst := some 71, op := .indexAddr 24 (.tmp 69) (.tmp 70), type := 0, pos := "ref.go:91", after := #[{ on := 1, ground := .data }, { on := 2, ground := .data }], guard := none }) (v := ?_) rfl (by kernel_rfl) (by kernel_rfl) (by kernel_rfl) (fun _ _ _ h => h) (Or.inl ⟨by rfl, ?_⟩) hS ?_
            rotate_left
            · (intro w' hS'; obtain ⟨s0, s1, s2⟩ := hS'; go_simp) <;> with_reducible rfl
            try simp only [Act.put, List.setIfInBounds_toArray, List.set_cons_zero, List.set_cons_succ]
            refine wpAnyH_take (i := 4) (oi := { dst := some 72, op := .fieldAddr 55 (.tmp 71) 0, type := 0, pos := "ref.go:91", after := #[{ on := 3, ground := .data }], guard := none }) (v := ?_) rfl (by kernel_rfl) (by kernel_rfl) (by kernel_rfl) (fun _ _ _ h => h) (Or.inl ⟨by rfl, ?_⟩) hS ?_
            rotate_left
            · (intro w' hS'; obtain ⟨s0, s1, s2⟩ := hS'; go_simp) <;> with_reducible rfl
            try simp only [Act.put, List.setIfInBounds_toArray, List.set_cons_zero, List.set_cons_succ]
            refine wpAnyH_take (i := 5) (oi := { dst := some 73, op := .load 3 (.tmp 72), type := 3, pos := "ref.go:91", after := #[{ on := 4, ground := .data }], guard := none }) (v := ?_) rfl (by kernel_rfl) (by kernel_rfl) (by kernel_rfl) (fun _ _ _ h => h) (Or.inl ⟨by rfl, ?_⟩) hS ?_
            rotate_left
            · (intro w' hS'; obtain ⟨s0, s1, s2⟩ := hS'; go_simp) <;> with_reducible rfl
            try simp only [Act.put, List.setIfInBounds_toArray, List.set_cons_zero, List.set_cons_succ]
            refine wpAnyH_take (i := 6) (oi := { dst := some 74, op := .fieldAddr 33 (.tmp 1) 0, type := 0, pos := "ref.go:91", after := #[], guard := none }) (v := ?_) rfl (by kernel_rfl) (by kernel_rfl) (by kernel_rfl) (fun _ _ _ h => h) (Or.inl ⟨by rfl, ?_⟩) hS ?_
            rotate_left
            · (intro w' hS'; obtain ⟨s0, s1, s2⟩ := hS'; go_simp) <;> with_reducible rfl
            try simp only [Act.put, List.setIfInBounds_toArray, List.set_cons_zero, List.set_cons_succ]
            refine wpAnyH_take (i := 7) (oi := { dst := some 75, op := .load 22 (.tmp 74), type := 22, pos := "ref.go:91", after := #[{ on := 6, ground := .data }], guard := none }) (v := ?_) rfl (by kernel_rfl) (by kernel_rfl) (by kernel_rfl) (fun _ _ _ h => h) (Or.inl ⟨by rfl, ?_⟩) hS ?_
            rotate_left
            · (intro w' hS'; obtain ⟨s0, s1, s2⟩ := hS'; go_simp) <;> with_reducible rfl
            try simp only [Act.put, List.setIfInBounds_toArray, List.set_cons_zero, List.set_cons_succ]
            refine wpAnyH_take (i := 8) (oi := { dst := some 76, op := .call { callee := .builtin .len, args := #[.tmp 75], argTypes := #[22] }, type := 3, pos := "ref.go:91", after := #[{ on := 7, ground := .data }], guard := none }) (v := ?_) rfl (by kernel_rfl) (by kernel_rfl) (by kernel_rfl) (fun _ _ _ h => h) (Or.inl ⟨by rfl, ?_⟩) hS ?_
            rotate_left
            · (intro w' hS'; obtain ⟨s0, s1, s2⟩ := hS'; go_simp) <;> with_reducible rfl
            try simp only [Act.put, List.setIfInBounds_toArray, List.set_cons_zero, List.set_cons_succ]
            refine wpAnyH_ready (rs := [9]) (by kernel_rfl) (by simp) ?_
            refine AllReadyH.cons (o := { dst := some 77, op := .call { callee := .value (.func 16), args := #[.tmp 73, .tmp 76], argTypes := #[3, 3] }, type := 4, pos := "ref.go:91", after := #[{ on := 5, ground := .data }, { on := 8, ground := .data }], guard := none }) rfl (fun K' hK => ?_) (AllReadyH.nil)
            go_simp
            refine (HIN.out _).mono ?_
            rintro en V1 ⟨rfl, rfl⟩
            go_wp2_with fail
            refine hK.out _ _ (HSB.out _ HD.out) (fun hS => ?_)
            clear hK K'
            try simp only [Act.put, List.setIfInBounds_toArray, List.set_cons_zero, List.set_cons_succ]
            refine wpAnyH_take (i := 10) (oi := { dst := some 78, op := .unOp .not 4 (.tmp 77), type := 4, pos := "ref.go:91", after := #[{ on := 9, ground := .data }], guard := none }) (v := ?_) rfl (by kernel_rfl) (by kernel_rfl) (by kernel_rfl) (fun _ _ _ h => h) (Or.inl ⟨by rfl, ?_⟩) hS ?_
            rotate_left
            · (intro w' hS'; obtain ⟨s0, s1, s2⟩ := hS'; go_simp) <;> with_reducible rfl
            try simp only [Act.put, List.setIfInBounds_toArray, List.set_cons_zero, List.set_cons_succ]
            refine wpAnyH_done (by kernel_rfl) ?_ _
            go_wp2
            go_roundw
            case rel => exact ⟨j + 1, by go_num, by omega, HD, HN⟩
            case measure => simp [intOf]; omega
        · have hlti : ¬ (j : Int) < (g.funcs.length : Int) := by omega
          have HZF := Lib.hid (all_whole hlt HZ.out)
          have HR3 : Hid (firstE [eachE tabE g.tabs, eachE memE g.mems, oneE (gather g), eachE (globE (gather g)) g.globs, expE (gather g) [] g.expos, eachE (startE (gather g)) g.starts, eachE (elE (gather g)) g.els, eachE (datE (gather g)) g.dats, eachE (locE (gather g)) g.funcs] = R) := Lib.hid (by rw [← HR2.out, first_zero (each_all HZF.out)])
          have HW := Lib.hid HI.out
          rename World => V2
          clear HZ HI HR2
          go_wp2_with fail
          go_loopw [8] (fun i wr => ∃ j : Nat, i = .int .i64 (j : Int) ∧ j ≤ g.tabs.length ∧ Hid (Below (w.heap.size + 1) W0 wr) ∧ Hid (∀ x ∈ g.tabs.take j, tabE x = 0)) (fun i _ => g.tabs.length - (intOf i).toNat)
          case atStart => exact ⟨0, rfl, Nat.zero_le _, Lib.hid HW.out, Lib.hid (by simp)⟩
          case round =>
            clear HW
            obtain ⟨j, rfl, hj, HI, HZ⟩ := hrel
            obtain ⟨-, -, -, y3, -, -, -, -, -, -, -, -⟩ := HG.out _ HI.out
            have hn3 : (g.tabs.length : Int) ≤ 100 := by have := HSM.out.tabs; omega
            by_cases hlt : j < g.tabs.length
            · have hlti : (j : Int) < (g.tabs.length : Int) := by omega
              obtain ⟨b, off, hA, h1⟩ := sm_lim HL.out.l3 j hlt
              obtain ⟨q0, q1, q2⟩ := h1 wr (HB.out.trans (HI.out.mono (by omega)))
              rw [hA] at y3
              have HNX : Hid (tabE g.tabs[j] = 0 → ∀ x ∈ g.tabs.take (j + 1), tabE x = 0) := Lib.hid fun h => all_next hlt HZ.out h
              have HHT : Hid (∀ v, v ≠ 0 → tabE g.tabs[j] = v → R = v) := Lib.hid fun v hv h => by rw [← HR3.out, first_hit (each_ne hlt HZ.out (by rw [h]; exact hv)), each_hit hlt HZ.out (by rw [h]; exact hv), h]
              have HTE : Hid (∀ u, Calls Try.prog 17 #[.agg #[.int .i64 g.tabs[j].1, .bool g.tabs[j].2.1, .int .i64 g.tabs[j].2.2]] u (NumIs u (tabE g.tabs[j]))) := Lib.hid fun u => rtab_any _ _ _ (HLI.out.2 _ (List.getElem_mem hlt)).1 (HLI.out.2 _ (List.getElem_mem hlt)).2 u
              clear h1 hA HZ
              generalize g.tabs[j] = x at *
              obtain ⟨mn, cp, mx⟩ := x
              simp only at q0 q1 q2
              generalize tabE (mn, cp, mx) = te at *
              have HZW : Hid (w.heap.size + 1 ≤ wr.heap.size) := Lib.hid (by have := HI.out.size; have := HSZ.out; omega)
              go_wp2_with fail
              refine (HTE.out _).mono ?_
              rintro en V1 ⟨rfl, hb1⟩
              have HW := Lib.hid (HI.out.trans (hb1.mono HZW.out))
              clear hb1 q0 q1 q2 y3 HI HZW
              by_cases hte : te = 0
              · subst hte
                have HN := Lib.hid (HNX.out rfl)
                clear HNX HHT
                go_wp2
                go_roundw
                case rel => exact ⟨j + 1, by go_num, by omega, HW, HN⟩
                case measure => simp [intOf]; omega
              · have HE : Hid (R = te) := Lib.hid (HHT.out te hte rfl)
                clear HNX HHT
                go_wp2
                go_ret
                exact ⟨by rw [HE.out]; rfl, HB.out.trans (HW.out.mono (by omega))⟩
            · have hlti : ¬ (j : Int) < (g.tabs.length : Int) := by omega
              have HZT := Lib.hid (all_whole hlt HZ.out)
              have HR4 : Hid (firstE [eachE memE g.mems, oneE (gather g), eachE (globE (gather g)) g.globs, expE (gather g) [] g.expos, eachE (startE (gather g)) g.starts, eachE (elE (gather g)) g.els, eachE (datE (gather g)) g.dats, eachE (locE (gather g)) g.funcs] = R) := Lib.hid (by rw [← HR3.out, first_zero (each_all HZT.out)])
              have HW := Lib.hid HI.out
              rename World => V2
              clear HZ HI HR3
              go_wp2_with fail
              go_loopw [10] (fun i wr => ∃ j : Nat, i = .int .i64 (j : Int) ∧ j ≤ g.mems.length ∧ Hid (Below (w.heap.size + 1) W0 wr) ∧ Hid (∀ x ∈ g.mems.take j, memE x = 0)) (fun i _ => g.mems.length - (intOf i).toNat)
              case atStart => exact ⟨0, rfl, Nat.zero_le _, Lib.hid HW.out, Lib.hid (by simp)⟩
              case round =>
                clear HW
                obtain ⟨j, rfl, hj, HI, HZ⟩ := hrel
                obtain ⟨-, -, -, -, y4, -, -, -, -, -, -, -⟩ := HG.out _ HI.out
                have hn3 : (g.mems.length : Int) ≤ 100 := by have := HSM.out.mems; omega
                by_cases hlt : j < g.mems.length
                · have hlti : (j : Int) < (g.mems.length : Int) := by omega
                  obtain ⟨b, off, hA, h1⟩ := sm_lim HL.out.l4 j hlt
                  obtain ⟨q0, q1, q2⟩ := h1 wr (HB.out.trans (HI.out.mono (by omega)))
                  rw [hA] at y4
                  have HNX : Hid (memE g.mems[j] = 0 → ∀ x ∈ g.mems.take (j + 1), memE x = 0) := Lib.hid fun h => all_next hlt HZ.out h
                  have HHT : Hid (∀ v, v ≠ 0 → memE g.mems[j] = v → R = v) := Lib.hid fun v hv h => by rw [← HR4.out, first_hit (each_ne hlt HZ.out (by rw [h]; exact hv)), each_hit hlt HZ.out (by rw [h]; exact hv), h]
                  have HTE : Hid (∀ u, Calls Try.prog 18 #[.agg #[.int .i64 g.mems[j].1, .bool g.mems[j].2.1, .int .i64 g.mems[j].2.2]] u (NumIs u (memE g.mems[j]))) := Lib.hid fun u => rmem_any _ _ _ u
                  clear h1 hA HZ
                  generalize g.mems[j] = x at *
                  obtain ⟨mn, cp, mx⟩ := x
                  simp only at q0 q1 q2
                  generalize memE (mn, cp, mx) = te at *
                  have HZW : Hid (w.heap.size + 1 ≤ wr.heap.size) := Lib.hid (by have := HI.out.size; have := HSZ.out; omega)
                  go_wp2_with fail
                  refine (HTE.out _).mono ?_
                  rintro en V1 ⟨rfl, hb1⟩
                  have HW := Lib.hid (HI.out.trans (hb1.mono HZW.out))
                  clear hb1 q0 q1 q2 y4 HI HZW
                  by_cases hte : te = 0
                  · subst hte
                    have HN := Lib.hid (HNX.out rfl)
                    clear HNX HHT
                    go_wp2
                    go_roundw
                    case rel => exact ⟨j + 1, by go_num, by omega, HW, HN⟩
                    case measure => simp [intOf]; omega
                  · have HE : Hid (R = te) := Lib.hid (HHT.out te hte rfl)
                    clear HNX HHT
                    go_wp2
                    go_ret
                    exact ⟨by rw [HE.out]; rfl, HB.out.trans (HW.out.mono (by omega))⟩
                · have hlti : ¬ (j : Int) < (g.mems.length : Int) := by omega
                  have HR5 : Hid (firstE [oneE (gather g), eachE (globE (gather g)) g.globs, expE (gather g) [] g.expos, eachE (startE (gather g)) g.starts, eachE (elE (gather g)) g.els, eachE (datE (gather g)) g.dats, eachE (locE (gather g)) g.funcs] = R) := Lib.hid (by rw [← HR4.out, first_zero (each_all (all_whole hlt HZ.out))])
                  have HW := Lib.hid HI.out
                  rename World => V2
                  have HFIN : Hid (∀ f ∈ (gather g).funcs, inB f (gather g).types.length = true) := Lib.hid (funcs_two HZI.out HZF.out)
                  have HFT : Hid (∀ x ∈ g.funcs, inB x.ty g.types.length = true) := Lib.hid fun x hx => by have h := ty_in (HZF.out x hx); rwa [gather_types] at h
                  have HGA : Hid (∀ u, Below (w.heap.size + 1) W0 u → ∀ im, Calls Try.prog 10 #[.agg #[.slice p.A0 g.types.length p.c0, .slice p.A1 g.imps.length p.c1, .slice p.A2 g.funcs.length p.c2, .slice p.A3 g.tabs.length p.c3, .slice p.A4 g.mems.length p.c4, .slice p.A5 g.globs.length p.c5, .slice p.A6 g.expos.length p.c6, .slice p.A7 g.starts.length p.c7, .slice p.A8 g.els.length p.c8, .slice p.A9 g.counts.length p.c9, .slice p.A10 g.dats.length p.c10, .slice p.A11 g.cuss.length p.c11], .bool im] u (RGathIs u (gathR g im))) := Lib.hid fun u hu im => rgather_any g p u ok im (HL.out.keep (fun b h1 h2 => ⟨(HB.out.trans (hu.mono (by omega))).block b h2, h1⟩) (fun b h1 h2 => ⟨(HB.out.trans (hu.mono (by omega))).block b h2, h1⟩)) HSM.out
                  have HWZ : Hid (w.heap.size + 1 ≤ V2.heap.size) := Lib.hid (by have := HW.out.size; have := HSZ.out; omega)
                  clear HZ HI HR4 HZI HZF HZT
                  obtain ⟨y0, y1, y2, y3, y4, y5, y6, y7, y8, y9, y10, y11⟩ := HG.out _ HW.out
                  go_wp2_with fail
                  refine (HGA.out V2 HW.out false).mono ?_
                  rintro en V3 ⟨q, rfl, hc3, hb3⟩
                  have HW3 := Lib.hid (HW.out.trans (hb3.mono HWZ.out))
                  have HC3 : Hid (CtxL V3 (fun b => b < V2.heap.size ∨ V2.heap.size ≤ b) q (gather g)) := Lib.hid hc3
                  have HZ3 : Hid (w.heap.size + 1 ≤ V3.heap.size) := Lib.hid (by have := HW3.out.size; have := HSZ.out; omega)
                  clear hb3 hc3 y0 y1 y2 y3 y4 y5 y6 y7 y8 y9 y10 y11 HW HWZ
                  simp only [Plc.vals]
                  rw [show gathR g false = gather g from rfl]
                  have HGE : Hid ((∀ l t, constB (gathR g true) l t = constB (gather g) l t) ∧ (gather g).types = g.types) := Lib.hid ⟨constB_imp g, gather_types g⟩
                  generalize gather g = c at *
                  have HX : Hid (Below V3.heap.size V3 (V3.alloc (.cells #[.slice q.A0 c.types.length q.d0, .slice q.A1 c.funcs.length q.d1, .slice q.A2 c.globs.length q.d2, .slice q.A3 c.tabs.length q.d3, .slice q.A4 c.mems.length q.d4, .int .i64 c.hosts, .int .i64 c.vars, .int .i64 c.els, .int .i64 c.dats, .bool c.counted] 38)) ∧ (V3.alloc (.cells #[.slice q.A0 c.types.length q.d0, .slice q.A1 c.funcs.length q.d1, .slice q.A2 c.globs.length q.d2, .slice q.A3 c.tabs.length q.d3, .slice q.A4 c.mems.length q.d4, .int .i64 c.hosts, .int .i64 c.vars, .int .i64 c.els, .int .i64 c.dats, .bool c.counted] 38)).heap[V3.heap.size]? = some (.cells #[.slice q.A0 c.types.length q.d0, .slice q.A1 c.funcs.length q.d1, .slice q.A2 c.globs.length q.d2, .slice q.A3 c.tabs.length q.d3, .slice q.A4 c.mems.length q.d4, .int .i64 c.hosts, .int .i64 c.vars, .int .i64 c.els, .int .i64 c.dats, .bool c.counted] 38 (0, 0)) ∧ (V3.alloc (.cells #[.slice q.A0 c.types.length q.d0, .slice q.A1 c.funcs.length q.d1, .slice q.A2 c.globs.length q.d2, .slice q.A3 c.tabs.length q.d3, .slice q.A4 c.mems.length q.d4, .int .i64 c.hosts, .int .i64 c.vars, .int .i64 c.els, .int .i64 c.dats, .bool c.counted] 38)).heap.size = V3.heap.size + 1) := Lib.hid ⟨(Below.refl _ _).alloc (Nat.le_refl _) _, heap_alloc_new V3 _, by simp⟩
                  have HWG : Hid (Below (w.heap.size + 1) W0 (V3.alloc (.cells #[.slice q.A0 c.types.length q.d0, .slice q.A1 c.funcs.length q.d1, .slice q.A2 c.globs.length q.d2, .slice q.A3 c.tabs.length q.d3, .slice q.A4 c.mems.length q.d4, .int .i64 c.hosts, .int .i64 c.vars, .int .i64 c.els, .int .i64 c.dats, .bool c.counted] 38))) := Lib.hid (HW3.out.trans (HX.out.1.mono HZ3.out))
                  go_upto_region 31 with fail
                  generalize (V3.alloc (.cells #[.slice q.A0 c.types.length q.d0, .slice q.A1 c.funcs.length q.d1, .slice q.A2 c.globs.length q.d2, .slice q.A3 c.tabs.length q.d3, .slice q.A4 c.mems.length q.d4, .int .i64 c.hosts, .int .i64 c.vars, .int .i64 c.els, .int .i64 c.dats, .bool c.counted] 38)) = V6 at *
                  have HBC : Hid (∀ u, Below V6.heap.size V6 u → BoxC V3.heap.size u q c ∧ Below (w.heap.size + 1) W0 u ∧ CtxL u (fun b => b < V3.heap.size ∧ (b < V2.heap.size ∨ V2.heap.size ≤ b)) q c) := Lib.hid fun u hu => by
                    have h1 := (hu.block V3.heap.size (by have := HX.out; omega)).trans HX.out.2.1
                    have h2 : Below V3.heap.size V3 u := HX.out.1.trans (hu.mono (by have := HX.out; omega))
                    refine ⟨?_, HW3.out.trans (h2.mono HZ3.out), HC3.out.keep fun b hb hlt => ⟨h2.block b hlt, hlt, hb⟩⟩
                    refine ⟨?_, ?_, ?_, ?_, ?_, ?_, ?_, ?_, ?_, ?_⟩ <;> rw [blk_cell h1] <;> rfl
                  obtain ⟨⟨x0, x1, x2, x3, x4, x5, x6, x7, x8, x9⟩, -, -⟩ := HBC.out V6 (Below.refl _ _)
                  by_cases ht1 : 1 < c.tabs.length
                  · have ht1i : (1 : Int) < (c.tabs.length : Int) := by omega
                    have HE : Hid (R = 3) := Lib.hid (by rw [← HR5.out]; have h : oneE c = 3 := (by unfold oneE; rw [if_pos ht1]); rw [first_hit (by rw [h]; decide), h])
                    go_wp2
                    go_ret
                    exact ⟨by rw [HE.out]; rfl, HB.out.trans ((HBC.out _ (Below.refl _ _)).2.1.mono (by omega))⟩
                  have ht1i : ¬ (1 : Int) < (c.tabs.length : Int) := by omega
                  by_cases hm1 : 1 < c.mems.length
                  · have hm1i : (1 : Int) < (c.mems.length : Int) := by omega
                    have HE : Hid (R = 8) := Lib.hid (by rw [← HR5.out]; have h : oneE c = 8 := (by unfold oneE; rw [if_neg ht1, if_pos hm1]); rw [first_hit (by rw [h]; decide), h])
                    go_wp2
                    go_ret
                    exact ⟨by rw [HE.out]; rfl, HB.out.trans ((HBC.out _ (Below.refl _ _)).2.1.mono (by omega))⟩
                  have hm1i : ¬ (1 : Int) < (c.mems.length : Int) := by omega
                  have HR6 : Hid (firstE [eachE (globE c) g.globs, expE c [] g.expos, eachE (startE c) g.starts, eachE (elE c) g.els, eachE (datE c) g.dats, eachE (locE c) g.funcs] = R) := Lib.hid (by rw [← HR5.out]; have h : oneE c = 0 := (by unfold oneE; rw [if_neg ht1, if_neg hm1]); rw [first_zero h])
                  have HWV := Lib.hid (HBC.out _ (Below.refl _ _)).2.1
                  go_wp2_with fail
                  clear x0 x1 x2 x3 x4 x5 x6 x7 x8 x9 HR5 ht1i hm1i
                  have HKC : Hid (∀ u, Below (w.heap.size + 1) W0 u → True) := Lib.hid fun _ _ => trivial
                  go_loopw [13] (fun i wr => ∃ j : Nat, i = .int .i64 (j : Int) ∧ j ≤ g.globs.length ∧ Hid (Below V6.heap.size V6 wr) ∧ Hid (∀ x ∈ g.globs.take j, globE c x = 0)) (fun i _ => g.globs.length - (intOf i).toNat)
                  case atStart => exact ⟨0, rfl, Nat.zero_le _, Lib.hid (Below.refl _ _), Lib.hid (by simp)⟩
                  case round =>
                    obtain ⟨j, rfl, hj, HI, HZ⟩ := hrel
                    obtain ⟨-, -, -, -, -, y5, -, -, -, -, -, -⟩ := HG.out _ (HBC.out _ HI.out).2.1
                    have hn5 : (g.globs.length : Int) ≤ 100 := by have := HSM.out.globs; omega
                    by_cases hlt : j < g.globs.length
                    · have hlti : (j : Int) < (g.globs.length : Int) := by omega
                      obtain ⟨b, off, A1, c1, hA, h1⟩ := sm_glob HL.out.l5 j hlt
                      have HSB : Hid (∀ u, Below V6.heap.size V6 u → SGl w.heap.size b (off + j * 3) g p (some ⟨b, off, none⟩) g.globs[j].ty A1 g.globs[j].init.length c1 u ∧ Lst insR u ok A1 c1 g.globs[j].init) := Lib.hid fun u hu => by
                        obtain ⟨z0, -, z2, z3⟩ := h1 u (HB.out.trans ((HBC.out _ hu).2.1.mono (by omega)))
                        have hy := HG.out _ (HBC.out _ hu).2.1
                        unfold BoxG at hy
                        rw [hA] at hy
                        exact ⟨⟨hy, z0, z2⟩, z3⟩
                      have HA : Hid (p.A5 = some ⟨b, off, none⟩) := Lib.hid hA
                      have HNX : Hid (constB c g.globs[j].init g.globs[j].ty = true → ∀ x ∈ g.globs.take (j + 1), globE c x = 0) := Lib.hid fun h => all_next hlt HZ.out (by unfold globE; rw [if_pos h])
                      have HHT : Hid (constB c g.globs[j].init g.globs[j].ty = false → R = 6) := Lib.hid fun h => by
                        have h6 : globE c g.globs[j] = 6 := by unfold globE; rw [if_neg (by rw [h]; decide)]
                        rw [← HR6.out, first_hit (each_ne hlt HZ.out (by rw [h6]; decide)), each_hit hlt HZ.out (by rw [h6]; decide), h6]
                      have HCO : Hid (∀ (u : World) (p4 : Plc) (ok4 : Nat → Prop), Below V6.heap.size V6 u → CtxL u ok4 p4 (gathR g true) → Calls Try.prog 19 #[.agg #[.slice p4.A0 (gathR g true).types.length p4.d0, .slice p4.A1 (gathR g true).funcs.length p4.d1, .slice p4.A2 (gathR g true).globs.length p4.d2, .slice p4.A3 (gathR g true).tabs.length p4.d3, .slice p4.A4 (gathR g true).mems.length p4.d4, .int .i64 (gathR g true).hosts, .int .i64 (gathR g true).vars, .int .i64 (gathR g true).els, .int .i64 (gathR g true).dats, .bool (gathR g true).counted], .slice A1 g.globs[j].init.length c1, .int .i64 g.globs[j].ty] u (BoolIs u (constB c g.globs[j].init g.globs[j].ty))) := Lib.hid fun u p4 ok4 hu hc4 => by
                        have h := rconstant_any p4 (gathR g true) u hc4 g.globs[j].init (HSB.out u hu).2 g.globs[j].ty
                        rwa [HGE.out.1] at h
                      clear h1 HZ
                      rw [hA] at y5
                      clear hA
                      generalize constB c g.globs[j].init g.globs[j].ty = cb at *
                      generalize g.globs[j].ty = ty at *
                      generalize hn1 : g.globs[j].init.length = n1 at *
                      have HSS : Hid (∀ u, Below V6.heap.size V6 u → (SGl w.heap.size b (off + j * 3) g p (some ⟨b, off, none⟩) ty A1 n1 c1) u) := Lib.hid fun u hu => (HSB.out u hu).1
                      have HD : Hid (Below V6.heap.size V6 wr.drew) := Lib.hid HI.out.drew
                      have hS0 := HSS.out _ HD.out
                      clear hn1
                      have HGT : Hid (∀ u, Below V6.heap.size V6 u → Calls Try.prog 10 #[.agg #[.slice p.A0 g.types.length p.c0, .slice p.A1 g.imps.length p.c1, .slice p.A2 g.funcs.length p.c2, .slice p.A3 g.tabs.length p.c3, .slice p.A4 g.mems.length p.c4, .slice (some ⟨b, off, none⟩) g.globs.length p.c5, .slice p.A6 g.expos.length p.c6, .slice p.A7 g.starts.length p.c7, .slice p.A8 g.els.length p.c8, .slice p.A9 g.counts.length p.c9, .slice p.A10 g.dats.length p.c10, .slice p.A11 g.cuss.length p.c11], .bool true] u (RGathIs u (gathR g true))) := Lib.hid fun u hu => by rw [← HA.out]; exact HGA.out u (HBC.out _ hu).2.1 true
                      go_wp2_with fail
                      refine wp_region_held_drew (S := (SGl w.heap.size b (off + j * 3) g p (some ⟨b, off, none⟩) ty A1 n1 c1)) (by kernel_rfl) hS0 (fun hS => ?_)
                      clear hS0 y5 HI
                      generalize wr.drew = V at *
                      refine wpAnyH_take (i := 0) (oi := { dst := some 128, op := .load 33 (.tmp 1), type := 33, pos := "ref.go:113", after := #[], guard := none }) (v := ?_) rfl (by kernel_rfl) (by kernel_rfl) (by kernel_rfl) (fun _ _ _ h => h) (Or.inl ⟨by rfl, ?_⟩) hS ?_
                      rotate_left
                      · (intro w' hS'; obtain ⟨⟨s0, s1, s2, s3, s4, s5, s6, s7, s8, s9, s10, s11⟩, s12, s13⟩ := hS'; go_simp) <;> with_reducible rfl
                      try simp only [Act.put, List.setIfInBounds_toArray, List.set_cons_zero, List.set_cons_succ]
                      refine wpAnyH_take (i := 2) (oi := { dst := some 130, op := .fieldAddr 33 (.tmp 1) 5, type := 0, pos := "ref.go:113", after := #[], guard := none }) (v := ?_) rfl (by kernel_rfl) (by kernel_rfl) (by kernel_rfl) (fun _ _ _ h => h) (Or.inl ⟨by rfl, ?_⟩) hS ?_
                      rotate_left
                      · (intro w' hS'; obtain ⟨⟨s0, s1, s2, s3, s4, s5, s6, s7, s8, s9, s10, s11⟩, s12, s13⟩ := hS'; go_simp) <;> with_reducible rfl
                      try simp only [Act.put, List.setIfInBounds_toArray, List.set_cons_zero, List.set_cons_succ]
                      refine wpAnyH_take (i := 3) (oi := { dst := some 131, op := .load 26 (.tmp 130), type := 26, pos := "ref.go:113", after := #[{ on := 2, ground := .data }], guard := none }) (v := ?_) rfl (by kernel_rfl) (by kernel_rfl) (by kernel_rfl) (fun _ _ _ h => h) (Or.inl ⟨by rfl, ?_⟩) hS ?_
                      rotate_left
                      · (intro w' hS'; obtain ⟨⟨s0, s1, s2, s3, s4, s5, s6, s7, s8, s9, s10, s11⟩, s12, s13⟩ := hS'; go_simp) <;> with_reducible rfl
                      try simp only [Act.put, List.setIfInBounds_toArray, List.set_cons_zero, List.set_cons_succ]
                      refine wpAnyH_take (i := 4) (oi := { dst := some 132, op := .move (.tmp 13), type := 3, pos := "ref.go:113", after := #[], guard := none }) (v := ?_) rfl (by kernel_rfl) (by kernel_rfl) (by kernel_rfl) (fun _ _ _ h => h) (Or.inl ⟨by rfl, ?_⟩) hS ?_
                      rotate_left
                      · (intro w' hS'; obtain ⟨⟨s0, s1, s2, s3, s4, s5, s6, s7, s8, s9, s10, s11⟩, s12, s13⟩ := hS'; go_simp) <;> with_reducible rfl
                      try simp only [Act.put, List.setIfInBounds_toArray, List.set_cons_zero, List.set_cons_succ]
                      refine wpAnyH_take (i := 5) (oi := { dst := some 133, op := .indexAddr 26 (.tmp 131) (.tmp 132), type := 0, pos := "ref.go:113", after := #[{ on := 3, ground := .data }, { on := 4, ground := .data }], guard := none }) (v := ?_) rfl (by kernel_rfl) (by kernel_rfl) (by kernel_rfl) (fun _ _ _ h => h) (Or.inl ⟨by rfl, ?_⟩) hS ?_
                      rotate_left
                      · (intro w' hS'; obtain ⟨⟨s0, s1, s2, s3, s4, s5, s6, s7, s8, s9, s10, s11⟩, s12, s13⟩ := hS'; go_simp) <;> with_reducible rfl
                      try simp only [Act.put, List.setIfInBounds_toArray, List.set_cons_zero, List.set_cons_succ]
                      refine wpAnyH_take (i := 6) (oi := { dst := some 134, op := .fieldAddr 65 (.tmp 133) 2, type := 0, pos := "ref.go:113", after := #[{ on := 5, ground := .data }], guard := none }) (v := ?_) rfl (by kernel_rfl) (by kernel_rfl) (by kernel_rfl) (fun _ _ _ h => h) (Or.inl ⟨by rfl, ?_⟩) hS ?_
                      rotate_left
                      · (intro w' hS'; obtain ⟨⟨s0, s1, s2, s3, s4, s5, s6, s7, s8, s9, s10, s11⟩, s12, s13⟩ := hS'; go_simp) <;> with_reducible rfl
                      try simp only [Act.put, List.setIfInBounds_toArray, List.set_cons_zero, List.set_cons_succ]
                      refine wpAnyH_take (i := 7) (oi := { dst := some 135, op := .load 47 (.tmp 134), type := 47, pos := "ref.go:113", after := #[{ on := 6, ground := .data }], guard := none }) (v := ?_) rfl (by kernel_rfl) (by kernel_rfl) (by kernel_rfl) (fun _ _ _ h => h) (Or.inl ⟨by rfl, ?_⟩) hS ?_
                      rotate_left
                      · (intro w' hS'; obtain ⟨⟨s0, s1, s2, s3, s4, s5, s6, s7, s8, s9, s10, s11⟩, s12, s13⟩ := hS'; go_simp) <;> with_reducible rfl
                      try simp only [Act.put, List.setIfInBounds_toArray, List.set_cons_zero, List.set_cons_succ]
                      refine wpAnyH_take (i := 8) (oi := { dst := some 136, op := .fieldAddr 33 (.tmp 1) 5, type := 0, pos := "ref.go:113", after := #[], guard := none }) (v := ?_) rfl (by kernel_rfl) (by kernel_rfl) (by kernel_rfl) (fun _ _ _ h => h) (Or.inl ⟨by rfl, ?_⟩) hS ?_
                      rotate_left
                      · (intro w' hS'; obtain ⟨⟨s0, s1, s2, s3, s4, s5, s6, s7, s8, s9, s10, s11⟩, s12, s13⟩ := hS'; go_simp) <;> with_reducible rfl
                      try simp only [Act.put, List.setIfInBounds_toArray, List.set_cons_zero, List.set_cons_succ]
                      refine wpAnyH_take (i := 9) (oi := { dst := some 137, op := .load 26 (.tmp 136), type := 26, pos := "ref.go:113", after := #[{ on := 8, ground := .data }], guard := none }) (v := ?_) rfl (by kernel_rfl) (by kernel_rfl) (by kernel_rfl) (fun _ _ _ h => h) (Or.inl ⟨by rfl, ?_⟩) hS ?_
                      rotate_left
                      · (intro w' hS'; obtain ⟨⟨s0, s1, s2, s3, s4, s5, s6, s7, s8, s9, s10, s11⟩, s12, s13⟩ := hS'; go_simp) <;> with_reducible rfl
                      try simp only [Act.put, List.setIfInBounds_toArray, List.set_cons_zero, List.set_cons_succ]
                      refine wpAnyH_take (i := 10) (oi := { dst := some 138, op := .move (.tmp 13), type := 3, pos := "ref.go:113", after := #[], guard := none }) (v := ?_) rfl (by kernel_rfl) (by kernel_rfl) (by kernel_rfl) (fun _ _ _ h => h) (Or.inl ⟨by rfl, ?_⟩) hS ?_
                      rotate_left
                      · (intro w' hS'; obtain ⟨⟨s0, s1, s2, s3, s4, s5, s6, s7, s8, s9, s10, s11⟩, s12, s13⟩ := hS'; go_simp) <;> with_reducible rfl
                      try simp only [Act.put, List.setIfInBounds_toArray, List.set_cons_zero, List.set_cons_succ]
                      refine wpAnyH_take (i := 11) (oi := { dst := some 139, op := .indexAddr 26 (.tmp 137) (.tmp 138), type := 0, pos := "ref.go:113", after := #[{ on := 9, ground := .data }, { on := 10, ground := .data }], guard := none }) (v := ?_) rfl (by kernel_rfl) (by kernel_rfl) (by kernel_rfl) (fun _ _ _ h => h) (Or.inl ⟨by rfl, ?_⟩) hS ?_
                      rotate_left
                      · (intro w' hS'; obtain ⟨⟨s0, s1, s2, s3, s4, s5, s6, s7, s8, s9, s10, s11⟩, s12, s13⟩ := hS'; go_simp) <;> with_reducible rfl
                      try simp only [Act.put, List.setIfInBounds_toArray, List.set_cons_zero, List.set_cons_succ]
                      refine wpAnyH_take (i := 12) (oi := { dst := some 140, op := .fieldAddr 65 (.tmp 139) 0, type := 0, pos := "ref.go:113", after := #[{ on := 11, ground := .data }], guard := none }) (v := ?_) rfl (by kernel_rfl) (by kernel_rfl) (by kernel_rfl) (fun _ _ _ h => h) (Or.inl ⟨by rfl, ?_⟩) hS ?_
                      rotate_left
                      · (intro w' hS'; obtain ⟨⟨s0, s1, s2, s3, s4, s5, s6, s7, s8, s9, s10, s11⟩, s12, s13⟩ := hS'; go_simp) <;> with_reducible rfl
                      try simp only [Act.put, List.setIfInBounds_toArray, List.set_cons_zero, List.set_cons_succ]
                      refine wpAnyH_take (i := 13) (oi := { dst := some 141, op := .load 3 (.tmp 140), type := 3, pos := "ref.go:113", after := #[{ on := 12, ground := .data }], guard := none }) (v := ?_) rfl (by kernel_rfl) (by kernel_rfl) (by kernel_rfl) (fun _ _ _ h => h) (Or.inl ⟨by rfl, ?_⟩) hS ?_
                      rotate_left
                      · (intro w' hS'; obtain ⟨⟨s0, s1, s2, s3, s4, s5, s6, s7, s8, s9, s10, s11⟩, s12, s13⟩ := hS'; go_simp) <;> with_reducible rfl
                      try simp only [Act.put, List.setIfInBounds_toArray, List.set_cons_zero, List.set_cons_succ]
                      refine wpAnyH_ready (rs := [1]) (by kernel_rfl) (by simp) ?_
                      refine AllReadyH.cons (o := { dst := some 129, op := .call { callee := .value (.func 10), args := #[.tmp 128, .const (.bool true)], argTypes := #[33, 4] }, type := 38, pos := "ref.go:113", after := #[{ on := 0, ground := .data }], guard := none }) rfl (fun K' hK => ?_) (AllReadyH.nil)
                      go_simp
                      refine (HGT.out V HD.out).mono ?_
                      rintro en V4 ⟨p4, rfl, hc4, hb4⟩
                      have HW4 := Lib.hid (HD.out.trans (hb4.mono HD.out.size))
                      have HC4 := Lib.hid hc4
                      clear hb4 hc4
                      simp only [Plc.vals]
                      go_wp2_with fail
                      refine hK.out _ _ (HSS.out _ HW4.out) (fun hS => ?_)
                      clear hK K'
                      try simp only [Act.put, List.setIfInBounds_toArray, List.set_cons_zero, List.set_cons_succ]
                      refine wpAnyH_ready (rs := [14]) (by kernel_rfl) (by simp) ?_
                      refine AllReadyH.cons (o := { dst := some 142, op := .call { callee := .value (.func 19), args := #[.tmp 129, .tmp 135, .tmp 141], argTypes := #[38, 47, 3] }, type := 4, pos := "ref.go:113", after := #[{ on := 1, ground := .data }, { on := 7, ground := .data }, { on := 13, ground := .data }, { on := 1, ground := .chain }], guard := none }) rfl (fun K' hK => ?_) (AllReadyH.nil)
                      go_simp
                      refine (HCO.out V4 p4 _ HW4.out HC4.out).mono ?_
                      rintro en V5 ⟨rfl, hb5⟩
                      have HW5 := Lib.hid (HW4.out.trans (hb5.mono HW4.out.size))
                      clear hb5
                      go_wp2_with fail
                      refine hK.out _ _ (HSS.out _ HW5.out) (fun hS => ?_)
                      clear hK K'
                      try simp only [Act.put, List.setIfInBounds_toArray, List.set_cons_zero, List.set_cons_succ]
                      refine wpAnyH_take (i := 15) (oi := { dst := some 143, op := .unOp .not 4 (.tmp 142), type := 4, pos := "ref.go:113", after := #[{ on := 14, ground := .data }], guard := none }) (v := ?_) rfl (by kernel_rfl) (by kernel_rfl) (by kernel_rfl) (fun _ _ _ h => h) (Or.inl ⟨by rfl, ?_⟩) hS ?_
                      rotate_left
                      · (intro w' hS'; obtain ⟨⟨s0, s1, s2, s3, s4, s5, s6, s7, s8, s9, s10, s11⟩, s12, s13⟩ := hS'; go_simp) <;> with_reducible rfl
                      try simp only [Act.put, List.setIfInBounds_toArray, List.set_cons_zero, List.set_cons_succ]
                      refine wpAnyH_done (by kernel_rfl) ?_ _
                      cases cb with
                      | false =>
                        have HE : Hid (R = 6) := Lib.hid (HHT.out rfl)
                        go_wp2
                        go_ret
                        exact ⟨by rw [HE.out]; rfl, HB.out.trans ((HBC.out _ HW5.out).2.1.mono (by omega))⟩
                      | true =>
                        have HN := Lib.hid (HNX.out rfl)
                        go_wp2
                        go_roundw
                        case rel => exact ⟨j + 1, by go_num, by omega, HW5, HN⟩
                        case measure => simp [intOf]; omega
                    · have hlti : ¬ (j : Int) < (g.globs.length : Int) := by omega
                      have HR7 : Hid (firstE [expE c [] g.expos, eachE (startE c) g.starts, eachE (elE c) g.els, eachE (datE c) g.dats, eachE (locE c) g.funcs] = R) := Lib.hid (by rw [← HR6.out, first_zero (each_all (all_whole hlt HZ.out))])
                      rename World => V7
                      have HV7 := Lib.hid HI.out
                      clear HZ HI HR6 HKC
                      have HSP : Hid ((if firstE [expE c [] g.expos, eachE (startE c) g.starts] = 0 then firstE [eachE (elE c) g.els, eachE (datE c) g.dats, eachE (locE c) g.funcs] else firstE [expE c [] g.expos, eachE (startE c) g.starts]) = R) := Lib.hid (by rw [← HR7.out]; exact (first_split _ _ _).symm)
                      have hwl : ∀ u, Below V6.heap.size V6 u → Below w.heap.size w u := fun u hu => HB.out.trans ((HBC.out u hu).2.1.mono (by omega))
                      have HSE : Hid (∀ u, Below V6.heap.size V6 u → Calls Try.prog 20 #[.agg #[.slice p.A0 g.types.length p.c0, .slice p.A1 g.imps.length p.c1, .slice p.A2 g.funcs.length p.c2, .slice p.A3 g.tabs.length p.c3, .slice p.A4 g.mems.length p.c4, .slice p.A5 g.globs.length p.c5, .slice p.A6 g.expos.length p.c6, .slice p.A7 g.starts.length p.c7, .slice p.A8 g.els.length p.c8, .slice p.A9 g.counts.length p.c9, .slice p.A10 g.dats.length p.c10, .slice p.A11 g.cuss.length p.c11], .agg #[.slice q.A0 c.types.length q.d0, .slice q.A1 c.funcs.length q.d1, .slice q.A2 c.globs.length q.d2, .slice q.A3 c.tabs.length q.d3, .slice q.A4 c.mems.length q.d4, .int .i64 c.hosts, .int .i64 c.vars, .int .i64 c.els, .int .i64 c.dats, .bool c.counted]] u (NumIs u (firstE [expE c [] g.expos, eachE (startE c) g.starts]))) := Lib.hid fun u hu => rseen_any g p q c u (HL.out.keep (fun b h1 h2 => ⟨(hwl u hu).block b h2, h1⟩) (fun b h1 h2 => ⟨(hwl u hu).block b h2, h1⟩)) HSM.out (HBC.out u hu).2.2 HFIN.out
                      have HLA : Hid (∀ u, Below V6.heap.size V6 u → Calls Try.prog 21 #[.agg #[.slice p.A0 g.types.length p.c0, .slice p.A1 g.imps.length p.c1, .slice p.A2 g.funcs.length p.c2, .slice p.A3 g.tabs.length p.c3, .slice p.A4 g.mems.length p.c4, .slice p.A5 g.globs.length p.c5, .slice p.A6 g.expos.length p.c6, .slice p.A7 g.starts.length p.c7, .slice p.A8 g.els.length p.c8, .slice p.A9 g.counts.length p.c9, .slice p.A10 g.dats.length p.c10, .slice p.A11 g.cuss.length p.c11], .agg #[.slice q.A0 c.types.length q.d0, .slice q.A1 c.funcs.length q.d1, .slice q.A2 c.globs.length q.d2, .slice q.A3 c.tabs.length q.d3, .slice q.A4 c.mems.length q.d4, .int .i64 c.hosts, .int .i64 c.vars, .int .i64 c.els, .int .i64 c.dats, .bool c.counted]] u (NumIs u (firstE [eachE (elE c) g.els, eachE (datE c) g.dats, eachE (locE c) g.funcs]))) := Lib.hid fun u hu => rlaid_any g p q c u (HL.out.keep (fun b h1 h2 => ⟨(hwl u hu).block b h2, h1⟩) (fun b h1 h2 => ⟨(hwl u hu).block b h2, h1⟩)) HSM.out (HBC.out u hu).2.2 HGE.out.2 HFT.out
                      clear hwl HR7
                      generalize firstE [expE c [] g.expos, eachE (startE c) g.starts] = se at *
                      generalize firstE [eachE (elE c) g.els, eachE (datE c) g.dats, eachE (locE c) g.funcs] = le at *
                      obtain ⟨⟨x0, x1, x2, x3, x4, x5, x6, x7, x8, x9⟩, -, -⟩ := HBC.out V7 HV7.out
                      obtain ⟨y0, y1, y2, y3, y4, -, y6, y7, y8, y9, y10, y11⟩ := HG.out _ (HBC.out V7 HV7.out).2.1
                      go_wp2_with fail
                      refine (HSE.out V7 HV7.out).mono ?_
                      rintro en V8 ⟨rfl, hb8⟩
                      have HV8 := Lib.hid (HV7.out.trans (hb8.mono HV7.out.size))
                      clear hb8 x0 x1 x2 x3 x4 x5 x6 x7 x8 x9 y0 y1 y2 y3 y4 y5 y6 y7 y8 y9 y10 y11 HSE
                      by_cases hse : se = 0
                      · have HE : Hid (R = le) := Lib.hid (by rw [← HSP.out, if_pos hse])
                        subst hse
                        obtain ⟨⟨x0, x1, x2, x3, x4, x5, x6, x7, x8, x9⟩, -, -⟩ := HBC.out V8 HV8.out
                        obtain ⟨y0, y1, y2, y3, y4, y5, y6, y7, y8, y9, y10, y11⟩ := HG.out _ (HBC.out V8 HV8.out).2.1
                        go_wp2_with fail
                        refine (HLA.out V8 HV8.out).mono ?_
                        rintro en V9 ⟨rfl, hb9⟩
                        have HV9 := Lib.hid (HV8.out.trans (hb9.mono HV8.out.size))
                        clear hb9
                        go_wp2
                        go_ret
                        exact ⟨by rw [HE.out]; rfl, HB.out.trans ((HBC.out _ HV9.out).2.1.mono (by omega))⟩
                      · have HE : Hid (R = se) := Lib.hid (by rw [← HSP.out, if_neg hse])
                        go_wp2
                        go_ret
                        exact ⟨by rw [HE.out]; rfl, HB.out.trans ((HBC.out _ HV8.out).2.1.mono (by omega))⟩
end
end Go.Proofs.Ytlbbnnljclndkaa.Cx
