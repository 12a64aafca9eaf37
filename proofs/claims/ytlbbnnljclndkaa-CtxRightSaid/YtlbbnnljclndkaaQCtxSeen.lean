/-
  CtxSeen: The given seen of layer 9. Conditions: the module and the context lie in memory; the context's functions have types. (Written by wip/tools/genctxseen.py.)
-/
import Derived.Test.YtlbbnnljclndkaaQCtxRE0
import Derived.Test.YtlbbnnljclndkaaQCtxNM
import Derived.Deep.RegionHeld
namespace Go.Proofs.Ytlbbnnljclndkaa.Cx
open Go.RowKit Leb
open _root_.Go.Proofs.Ytlbbnnljclndkaa.Mod

/-- What a line of the second loop reads. -/
def SS (bm bx b o : Nat) (q : Plc) (c : GCtx) (A : Option Addr) (n cx : Nat) (s : Int) (V : World) : Prop := V.cell? ⟨bm, 7, none⟩ = some (.slice A n cx) ∧ V.cell? ⟨b, o, none⟩ = some (.int .i64 s) ∧ V.cell? ⟨bx, 1, none⟩ = some (.slice q.A1 c.funcs.length q.d1)
theorem str_no {a b : ByteArray} (h : ¬ a = b) : (a.toList == b.toList) = false := by
  rw [beq_eq_false_iff_ne]
  intro e
  apply h
  rw [ByteArray.toList_eq, ByteArray.toList_eq] at e
  exact ByteArray.ext (Array.ext' e)
/-- What the line that reads a start's type reads. -/
def SU (bm bx b o : Nat) (q : Plc) (c : GCtx) (A : Option Addr) (n cx k bf of' n' bt ot : Nat) (A1 : Option Addr) (n1 c1 : Nat) (A2 : Option Addr) (n2 c2 : Nat) (AF AT : Option Addr) (V : World) : Prop := V.cell? ⟨bm, 7, none⟩ = some (.slice A n cx) ∧ V.cell? ⟨b, o, none⟩ = some (.int .i64 (k : Int)) ∧ V.cell? ⟨bx, 1, none⟩ = some (.slice AF c.funcs.length q.d1) ∧ V.cell? ⟨bf, of', none⟩ = some (.int .i64 (n' : Int)) ∧ V.cell? ⟨bx, 0, none⟩ = some (.slice AT c.types.length q.d0) ∧ V.cell? ⟨bt, ot, none⟩ = some (.slice A1 n1 c1) ∧ V.cell? ⟨bt, ot + 1, none⟩ = some (.slice A2 n2 c2)
section
variable (g : GMd) (p : Pls) (q : Plc) (c : GCtx) (w : World) {ok okc : Nat → Prop}
set_option maxRecDepth 100000 in
set_option maxHeartbeats 16000000 in
theorem rseen_any (hl : MdL w ok ok p g) (hs : Sm g) (hc : CtxL w okc q c) (hf : ∀ f ∈ c.funcs, inB f c.types.length = true) : Calls Try.prog 20 #[.agg #[.slice p.A0 g.types.length p.c0, .slice p.A1 g.imps.length p.c1, .slice p.A2 g.funcs.length p.c2, .slice p.A3 g.tabs.length p.c3, .slice p.A4 g.mems.length p.c4, .slice p.A5 g.globs.length p.c5, .slice p.A6 g.expos.length p.c6, .slice p.A7 g.starts.length p.c7, .slice p.A8 g.els.length p.c8, .slice p.A9 g.counts.length p.c9, .slice p.A10 g.dats.length p.c10, .slice p.A11 g.cuss.length p.c11], .agg #[.slice q.A0 c.types.length q.d0, .slice q.A1 c.funcs.length q.d1, .slice q.A2 c.globs.length q.d2, .slice q.A3 c.tabs.length q.d3, .slice q.A4 c.mems.length q.d4, .int .i64 c.hosts, .int .i64 c.vars, .int .i64 c.els, .int .i64 c.dats, .bool c.counted]] w (NumIs w (firstE [expE c [] g.expos, eachE (startE c) g.starts])) := by
  have HRV := Lib.hid (rfl : firstE [expE c [] g.expos, eachE (startE c) g.starts] = firstE [expE c [] g.expos, eachE (startE c) g.starts])
  have HB : Hid (Below w.heap.size w ((w.alloc (.cells #[.slice p.A0 g.types.length p.c0, .slice p.A1 g.imps.length p.c1, .slice p.A2 g.funcs.length p.c2, .slice p.A3 g.tabs.length p.c3, .slice p.A4 g.mems.length p.c4, .slice p.A5 g.globs.length p.c5, .slice p.A6 g.expos.length p.c6, .slice p.A7 g.starts.length p.c7, .slice p.A8 g.els.length p.c8, .slice p.A9 g.counts.length p.c9, .slice p.A10 g.dats.length p.c10, .slice p.A11 g.cuss.length p.c11] 33)).alloc (.cells #[.slice q.A0 c.types.length q.d0, .slice q.A1 c.funcs.length q.d1, .slice q.A2 c.globs.length q.d2, .slice q.A3 c.tabs.length q.d3, .slice q.A4 c.mems.length q.d4, .int .i64 c.hosts, .int .i64 c.vars, .int .i64 c.els, .int .i64 c.dats, .bool c.counted] 38))) := Lib.hid (((Below.refl _ _).alloc (Nat.le_refl _) _).alloc (by simp) _)
  have HG : Hid (∀ v, Below (w.heap.size + 2) ((w.alloc (.cells #[.slice p.A0 g.types.length p.c0, .slice p.A1 g.imps.length p.c1, .slice p.A2 g.funcs.length p.c2, .slice p.A3 g.tabs.length p.c3, .slice p.A4 g.mems.length p.c4, .slice p.A5 g.globs.length p.c5, .slice p.A6 g.expos.length p.c6, .slice p.A7 g.starts.length p.c7, .slice p.A8 g.els.length p.c8, .slice p.A9 g.counts.length p.c9, .slice p.A10 g.dats.length p.c10, .slice p.A11 g.cuss.length p.c11] 33)).alloc (.cells #[.slice q.A0 c.types.length q.d0, .slice q.A1 c.funcs.length q.d1, .slice q.A2 c.globs.length q.d2, .slice q.A3 c.tabs.length q.d3, .slice q.A4 c.mems.length q.d4, .int .i64 c.hosts, .int .i64 c.vars, .int .i64 c.els, .int .i64 c.dats, .bool c.counted] 38)) v → BoxG w.heap.size v g p ∧ BoxC (w.heap.size + 1) v q c) := Lib.hid fun v hv => by
    have h0 := (hv.block w.heap.size (by omega)).trans ((((Below.refl _ _).alloc (Nat.le_refl _) _).block _ (by simp)).trans (heap_alloc_new w _))
    have h1 := (hv.block (w.heap.size + 1) (by omega)).trans (heap2 w (.cells #[.slice p.A0 g.types.length p.c0, .slice p.A1 g.imps.length p.c1, .slice p.A2 g.funcs.length p.c2, .slice p.A3 g.tabs.length p.c3, .slice p.A4 g.mems.length p.c4, .slice p.A5 g.globs.length p.c5, .slice p.A6 g.expos.length p.c6, .slice p.A7 g.starts.length p.c7, .slice p.A8 g.els.length p.c8, .slice p.A9 g.counts.length p.c9, .slice p.A10 g.dats.length p.c10, .slice p.A11 g.cuss.length p.c11] 33) #[.slice q.A0 c.types.length q.d0, .slice q.A1 c.funcs.length q.d1, .slice q.A2 c.globs.length q.d2, .slice q.A3 c.tabs.length q.d3, .slice q.A4 c.mems.length q.d4, .int .i64 c.hosts, .int .i64 c.vars, .int .i64 c.els, .int .i64 c.dats, .bool c.counted] 38)
    refine ⟨?_, ?_⟩
    · refine ⟨?_, ?_, ?_, ?_, ?_, ?_, ?_, ?_, ?_, ?_, ?_, ?_⟩ <;> rw [blk_cell h0] <;> rfl
    · refine ⟨?_, ?_, ?_, ?_, ?_, ?_, ?_, ?_, ?_, ?_⟩ <;> rw [blk_cell h1] <;> rfl
  have HSZ : Hid (w.heap.size + 2 ≤ ((w.alloc (.cells #[.slice p.A0 g.types.length p.c0, .slice p.A1 g.imps.length p.c1, .slice p.A2 g.funcs.length p.c2, .slice p.A3 g.tabs.length p.c3, .slice p.A4 g.mems.length p.c4, .slice p.A5 g.globs.length p.c5, .slice p.A6 g.expos.length p.c6, .slice p.A7 g.starts.length p.c7, .slice p.A8 g.els.length p.c8, .slice p.A9 g.counts.length p.c9, .slice p.A10 g.dats.length p.c10, .slice p.A11 g.cuss.length p.c11] 33)).alloc (.cells #[.slice q.A0 c.types.length q.d0, .slice q.A1 c.funcs.length q.d1, .slice q.A2 c.globs.length q.d2, .slice q.A3 c.tabs.length q.d3, .slice q.A4 c.mems.length q.d4, .int .i64 c.hosts, .int .i64 c.vars, .int .i64 c.els, .int .i64 c.dats, .bool c.counted] 38)).heap.size) := Lib.hid (by simp)
  have HL := Lib.hid hl
  have HSM := Lib.hid hs
  have HC := Lib.hid hc
  have HFI := Lib.hid hf
  clear hl hs hc hf
  generalize hRR : firstE [expE c [] g.expos, eachE (startE c) g.starts] = R at HRV ⊢
  have HR := Lib.hid hRR
  clear hRR HRV
  go_enter Try.func20, Try.ntmps20
  go_wp2_with fail
  generalize ((w.alloc (.cells #[.slice p.A0 g.types.length p.c0, .slice p.A1 g.imps.length p.c1, .slice p.A2 g.funcs.length p.c2, .slice p.A3 g.tabs.length p.c3, .slice p.A4 g.mems.length p.c4, .slice p.A5 g.globs.length p.c5, .slice p.A6 g.expos.length p.c6, .slice p.A7 g.starts.length p.c7, .slice p.A8 g.els.length p.c8, .slice p.A9 g.counts.length p.c9, .slice p.A10 g.dats.length p.c10, .slice p.A11 g.cuss.length p.c11] 33)).alloc (.cells #[.slice q.A0 c.types.length q.d0, .slice q.A1 c.funcs.length q.d1, .slice q.A2 c.globs.length q.d2, .slice q.A3 c.tabs.length q.d3, .slice q.A4 c.mems.length q.d4, .int .i64 c.hosts, .int .i64 c.vars, .int .i64 c.els, .int .i64 c.dats, .bool c.counted] 38)) = W0 at *
  go_loopw [5] (fun i wr => ∃ j : Nat, i = .int .i64 (j : Int) ∧ j ≤ g.expos.length ∧ Hid (Below (w.heap.size + 2) W0 wr) ∧ Hid (expE c [] g.expos = expE c ((g.expos.take j).map (fun x => x.nm)) (g.expos.drop j))) (fun i _ => g.expos.length - (intOf i).toNat)
  case atStart => exact ⟨0, rfl, Nat.zero_le _, Lib.hid (Below.refl _ _), Lib.hid rfl⟩
  case round =>
    obtain ⟨j, rfl, hj, HI, HEQ⟩ := hrel
    obtain ⟨-, -, -, -, -, -, y6, -, -, -, -, -⟩ := (HG.out _ HI.out).1
    have hn6 : (g.expos.length : Int) ≤ 100 := by have := HSM.out.expos; omega
    by_cases hlt : j < g.expos.length
    · have hlti : (j : Int) < (g.expos.length : Int) := by omega
      obtain ⟨b, off, hA, h1⟩ := sm_expo HL.out.l6 j hlt
      obtain ⟨q0, q1, q2⟩ := h1 wr (HB.out.trans (HI.out.mono (by omega)))
      have HA := Lib.hid hA
      rw [hA] at y6
      have HDR : Hid (g.expos.drop j = g.expos[j] :: g.expos.drop (j + 1) ∧ (g.expos.take (j + 1)).map (fun x => x.nm) = (g.expos.take j).map (fun x => x.nm) ++ [g.expos[j].nm]) := Lib.hid ⟨List.drop_eq_getElem_cons hlt, by rw [List.take_succ_eq_append_getElem hlt, List.map_append]; rfl⟩
      clear h1 hA
      generalize g.expos[j] = x at *
      have HXB : Hid (Below wr.heap.size wr (wr.alloc (.cells #[.string x.nm, .int .i64 x.kind, .int .i64 x.idx] 67)) ∧ (wr.alloc (.cells #[.string x.nm, .int .i64 x.kind, .int .i64 x.idx] 67)).heap[wr.heap.size]? = some (.cells #[.string x.nm, .int .i64 x.kind, .int .i64 x.idx] 67 (0, 0)) ∧ (wr.alloc (.cells #[.string x.nm, .int .i64 x.kind, .int .i64 x.idx] 67)).heap.size = wr.heap.size + 1 ∧ w.heap.size + 2 ≤ wr.heap.size) := Lib.hid ⟨(Below.refl _ _).alloc (Nat.le_refl _) _, heap_alloc_new wr _, by simp, by have := HI.out.size; have := HSZ.out; omega⟩
      have HV0 : Hid (Below (w.heap.size + 2) W0 (wr.alloc (.cells #[.string x.nm, .int .i64 x.kind, .int .i64 x.idx] 67))) := Lib.hid (HI.out.trans (HXB.out.1.mono HXB.out.2.2.2))
      go_wp2_with fail
      clear q0 q1 q2 y6
      generalize (wr.alloc (.cells #[.string x.nm, .int .i64 x.kind, .int .i64 x.idx] 67)) = V0 at *
      go_loopw [7] (fun i wr2 => ∃ k : Nat, i = .int .i64 (k : Int) ∧ k ≤ j ∧ Hid (∀ y ∈ g.expos.take k, y.nm ≠ x.nm) ∧ Hid (Below V0.heap.size V0 wr2)) (fun i _ => j - (intOf i).toNat)
      case atStart => exact ⟨0, rfl, Nat.zero_le _, Lib.hid (by simp), Lib.hid (Below.refl _ _)⟩
      case round =>
        obtain ⟨k, rfl, hk, HK, HJ⟩ := hrel
        rename World => V2
        have HV2 : Hid (Below (w.heap.size + 2) W0 V2) := Lib.hid (HV0.out.trans (HJ.out.mono (by have := HXB.out; omega)))
        have HX2 := Lib.hid ((HJ.out.block _ (by have := HXB.out; omega)).trans HXB.out.2.1)
        by_cases hlt2 : k < j
        · have hlti2 : (k : Int) < (j : Int) := by omega
          have hkl : k < g.expos.length := by omega
          have hkli : (k : Int) < (g.expos.length : Int) := by omega
          obtain ⟨-, -, -, -, -, -, y6, -, -, -, -, -⟩ := (HG.out _ HV2.out).1
          obtain ⟨b', off', hA, h1⟩ := sm_expo HL.out.l6 k hkl
          obtain ⟨z0, -, -⟩ := h1 V2 (HB.out.trans (HV2.out.mono (by omega)))
          rw [HA.out] at y6 hA
          injection hA with hA
          injection hA with e1 e2 _
          subst e1 e2
          have q0 : V2.cell? ⟨wr.heap.size, 0, none⟩ = some (.string x.nm) := (blk_cell HX2.out 0).trans rfl
          have HNX : Hid (g.expos[k].nm ≠ x.nm → ∀ y ∈ g.expos.take (k + 1), y.nm ≠ x.nm) := Lib.hid fun h => all_next hkl HK.out h
          have HIN : Hid (g.expos[k].nm = x.nm → hasN ((g.expos.take j).map (fun x => x.nm)) x.nm = true) := Lib.hid fun h => hasN_iff.2 (List.mem_map.2 ⟨g.expos[k], by rw [List.mem_take_iff_getElem]; exact ⟨k, by omega, rfl⟩, h⟩)
          clear h1 HX2 HK
          generalize g.expos[k].nm = yn at *
          generalize hxn : x.nm = xn at *
          have HXN := Lib.hid hxn
          clear hxn
          by_cases hy : yn = xn
          · have HE : Hid (R = 8) := Lib.hid (by
              have h8 : expE c [] g.expos = 8 := by rw [HEQ.out, HDR.out.1]; show (if hasN _ x.nm = true then (8 : Int) else _) = 8; rw [if_pos (by rw [HXN.out]; exact HIN.out hy)]
              rw [← HR.out, h8, first_hit (by decide)])
            subst hy
            go_wp2_with fail
            go_quiet (fail)
            go_wp2
            go_ret
            exact ⟨by rw [HE.out]; rfl, HB.out.trans ((HV2.out.mono (by omega)).trans ⟨rfl, rfl, rfl, Nat.le_refl _, fun _ _ => rfl⟩)⟩
          · have HN := Lib.hid (HNX.out hy)
            have hyb : (yn.toList == xn.toList) = false := str_no hy
            clear HNX HIN
            go_wp2_with fail
            go_quiet (fail)
            go_wp2
            go_roundw
            case rel => exact ⟨k + 1, by go_num, by omega, HN, Lib.hid (HJ.out.trans ⟨rfl, rfl, rfl, Nat.le_refl _, fun _ _ => rfl⟩)⟩
            case measure => simp [intOf]; omega
        · have hlti2 : ¬ (k : Int) < (j : Int) := by omega
          have hkj : k = j := by omega
          subst hkj
          have HNN : Hid (hasN ((g.expos.take k).map (fun x => x.nm)) x.nm = false) := Lib.hid (by
            cases hh : hasN ((g.expos.take k).map (fun x => x.nm)) x.nm with
            | false => rfl
            | true =>
              obtain ⟨y, hy, e⟩ := List.mem_map.1 (hasN_iff.1 hh)
              exact absurd e (HK.out y hy))
          have HST : Hid (expE c [] g.expos = if inB x.idx (manyN c x.kind) then expE c ((g.expos.take (k + 1)).map (fun x => x.nm)) (g.expos.drop (k + 1)) else 7) := Lib.hid (by
            rw [HEQ.out, HDR.out.1, HDR.out.2]
            show (if hasN _ x.nm = true then (8 : Int) else _) = _
            rw [HNN.out]; rfl)
          have q1 : V2.cell? ⟨wr.heap.size, 1, none⟩ = some (.int .i64 x.kind) := (blk_cell HX2.out 1).trans rfl
          have q2 : V2.cell? ⟨wr.heap.size, 2, none⟩ = some (.int .i64 x.idx) := (blk_cell HX2.out 2).trans rfl
          obtain ⟨-, x1, x2, x3, x4, -, -, -, -, -⟩ := (HG.out _ HV2.out).2
          clear HK HNN HEQ HDR HXB HV0 HJ HX2 HA hk
          generalize x.kind = kd at *
          generalize x.idx = ix at *
          by_cases k0 : kd = 0
          · subst k0
            cases hb : inB ix (c.funcs.length) with
            | false =>
              have HIN : Hid (∀ V : World, Calls Try.prog 16 #[.int .i64 ix, .int .i64 (c.funcs.length : Int)] V fun en w' => en = .returned (.bool false) ∧ w' = V) := Lib.hid fun V => by
                have h := rin_any ix (c.funcs.length : Int) V
                have e : (decide (0 ≤ ix) && decide (ix < (c.funcs.length : Int))) = false := hb
                rwa [e] at h
              have HE : Hid (R = 7) := Lib.hid (by rw [← HR.out, HST.out, if_neg (by rw [show manyN c 0 = c.funcs.length from by simp [manyN], hb]; decide), first_hit (by decide)])
              clear hb HST
              go_wp2_with fail
              refine (HIN.out _).mono ?_
              rintro en w1 ⟨rfl, rfl⟩
              go_wp2
              go_ret
              exact ⟨by rw [HE.out]; rfl, HB.out.trans (HV2.out.mono (by omega))⟩
            | true =>
              have HIN : Hid (∀ V : World, Calls Try.prog 16 #[.int .i64 ix, .int .i64 (c.funcs.length : Int)] V fun en w' => en = .returned (.bool true) ∧ w' = V) := Lib.hid fun V => by
                have h := rin_any ix (c.funcs.length : Int) V
                have e : (decide (0 ≤ ix) && decide (ix < (c.funcs.length : Int))) = true := hb
                rwa [e] at h
              have HN : Hid (expE c [] g.expos = expE c ((g.expos.take (k + 1)).map (fun x => x.nm)) (g.expos.drop (k + 1))) := Lib.hid (by rw [HST.out, if_pos (by rw [show manyN c 0 = c.funcs.length from by simp [manyN], hb])])
              clear hb HST
              go_wp2_with fail
              refine (HIN.out _).mono ?_
              rintro en w1 ⟨rfl, rfl⟩
              go_wp2
              go_roundw
              case rel => exact ⟨k + 1, by go_num, by omega, HV2, HN⟩
              case measure => simp [intOf]; omega
          by_cases k1 : kd = 1
          · subst k1
            cases hb : inB ix (c.tabs.length) with
            | false =>
              have HIN : Hid (∀ V : World, Calls Try.prog 16 #[.int .i64 ix, .int .i64 (c.tabs.length : Int)] V fun en w' => en = .returned (.bool false) ∧ w' = V) := Lib.hid fun V => by
                have h := rin_any ix (c.tabs.length : Int) V
                have e : (decide (0 ≤ ix) && decide (ix < (c.tabs.length : Int))) = false := hb
                rwa [e] at h
              have HE : Hid (R = 7) := Lib.hid (by rw [← HR.out, HST.out, if_neg (by rw [show manyN c 1 = c.tabs.length from by simp [manyN], hb]; decide), first_hit (by decide)])
              clear hb HST
              go_wp2_with fail
              refine (HIN.out _).mono ?_
              rintro en w1 ⟨rfl, rfl⟩
              go_wp2
              go_ret
              exact ⟨by rw [HE.out]; rfl, HB.out.trans (HV2.out.mono (by omega))⟩
            | true =>
              have HIN : Hid (∀ V : World, Calls Try.prog 16 #[.int .i64 ix, .int .i64 (c.tabs.length : Int)] V fun en w' => en = .returned (.bool true) ∧ w' = V) := Lib.hid fun V => by
                have h := rin_any ix (c.tabs.length : Int) V
                have e : (decide (0 ≤ ix) && decide (ix < (c.tabs.length : Int))) = true := hb
                rwa [e] at h
              have HN : Hid (expE c [] g.expos = expE c ((g.expos.take (k + 1)).map (fun x => x.nm)) (g.expos.drop (k + 1))) := Lib.hid (by rw [HST.out, if_pos (by rw [show manyN c 1 = c.tabs.length from by simp [manyN], hb])])
              clear hb HST
              go_wp2_with fail
              refine (HIN.out _).mono ?_
              rintro en w1 ⟨rfl, rfl⟩
              go_wp2
              go_roundw
              case rel => exact ⟨k + 1, by go_num, by omega, HV2, HN⟩
              case measure => simp [intOf]; omega
          by_cases k2 : kd = 2
          · subst k2
            cases hb : inB ix (c.mems.length) with
            | false =>
              have HIN : Hid (∀ V : World, Calls Try.prog 16 #[.int .i64 ix, .int .i64 (c.mems.length : Int)] V fun en w' => en = .returned (.bool false) ∧ w' = V) := Lib.hid fun V => by
                have h := rin_any ix (c.mems.length : Int) V
                have e : (decide (0 ≤ ix) && decide (ix < (c.mems.length : Int))) = false := hb
                rwa [e] at h
              have HE : Hid (R = 7) := Lib.hid (by rw [← HR.out, HST.out, if_neg (by rw [show manyN c 2 = c.mems.length from by simp [manyN], hb]; decide), first_hit (by decide)])
              clear hb HST
              go_wp2_with fail
              refine (HIN.out _).mono ?_
              rintro en w1 ⟨rfl, rfl⟩
              go_wp2
              go_ret
              exact ⟨by rw [HE.out]; rfl, HB.out.trans (HV2.out.mono (by omega))⟩
            | true =>
              have HIN : Hid (∀ V : World, Calls Try.prog 16 #[.int .i64 ix, .int .i64 (c.mems.length : Int)] V fun en w' => en = .returned (.bool true) ∧ w' = V) := Lib.hid fun V => by
                have h := rin_any ix (c.mems.length : Int) V
                have e : (decide (0 ≤ ix) && decide (ix < (c.mems.length : Int))) = true := hb
                rwa [e] at h
              have HN : Hid (expE c [] g.expos = expE c ((g.expos.take (k + 1)).map (fun x => x.nm)) (g.expos.drop (k + 1))) := Lib.hid (by rw [HST.out, if_pos (by rw [show manyN c 2 = c.mems.length from by simp [manyN], hb])])
              clear hb HST
              go_wp2_with fail
              refine (HIN.out _).mono ?_
              rintro en w1 ⟨rfl, rfl⟩
              go_wp2
              go_roundw
              case rel => exact ⟨k + 1, by go_num, by omega, HV2, HN⟩
              case measure => simp [intOf]; omega
          by_cases k3 : kd = 3
          · subst k3
            cases hb : inB ix (c.globs.length) with
            | false =>
              have HIN : Hid (∀ V : World, Calls Try.prog 16 #[.int .i64 ix, .int .i64 (c.globs.length : Int)] V fun en w' => en = .returned (.bool false) ∧ w' = V) := Lib.hid fun V => by
                have h := rin_any ix (c.globs.length : Int) V
                have e : (decide (0 ≤ ix) && decide (ix < (c.globs.length : Int))) = false := hb
                rwa [e] at h
              have HE : Hid (R = 7) := Lib.hid (by rw [← HR.out, HST.out, if_neg (by rw [show manyN c 3 = c.globs.length from by simp [manyN], hb]; decide), first_hit (by decide)])
              clear hb HST
              go_wp2_with fail
              refine (HIN.out _).mono ?_
              rintro en w1 ⟨rfl, rfl⟩
              go_wp2
              go_ret
              exact ⟨by rw [HE.out]; rfl, HB.out.trans (HV2.out.mono (by omega))⟩
            | true =>
              have HIN : Hid (∀ V : World, Calls Try.prog 16 #[.int .i64 ix, .int .i64 (c.globs.length : Int)] V fun en w' => en = .returned (.bool true) ∧ w' = V) := Lib.hid fun V => by
                have h := rin_any ix (c.globs.length : Int) V
                have e : (decide (0 ≤ ix) && decide (ix < (c.globs.length : Int))) = true := hb
                rwa [e] at h
              have HN : Hid (expE c [] g.expos = expE c ((g.expos.take (k + 1)).map (fun x => x.nm)) (g.expos.drop (k + 1))) := Lib.hid (by rw [HST.out, if_pos (by rw [show manyN c 3 = c.globs.length from by simp [manyN], hb])])
              clear hb HST
              go_wp2_with fail
              refine (HIN.out _).mono ?_
              rintro en w1 ⟨rfl, rfl⟩
              go_wp2
              go_roundw
              case rel => exact ⟨k + 1, by go_num, by omega, HV2, HN⟩
              case measure => simp [intOf]; omega
          have HE : Hid (R = 7) := Lib.hid (by rw [← HR.out, HST.out, if_neg (by rw [show manyN c kd = 0 from by simp [manyN, k0, k1, k2, k3]]; simp [inB]), first_hit (by decide)])
          clear HST
          go_wp2
          go_ret
          exact ⟨by rw [HE.out]; rfl, HB.out.trans (HV2.out.mono (by omega))⟩
    · have hlti : ¬ (j : Int) < (g.expos.length : Int) := by omega
      rename World => V2
      have HZ : Hid (R = eachE (startE c) g.starts) := Lib.hid (by
        have h0 : expE c [] g.expos = 0 := by rw [HEQ.out, List.drop_of_length_le (by omega)]; rfl
        rw [← HR.out, first_zero h0, first_last])
      have HW := Lib.hid HI.out
      clear HEQ HR HI
      go_wp2_with fail
      go_loopw [9] (fun i wr => ∃ j : Nat, i = .int .i64 (j : Int) ∧ j ≤ g.starts.length ∧ Hid (Below (w.heap.size + 2) W0 wr) ∧ Hid (∀ x ∈ g.starts.take j, startE c x = 0)) (fun i _ => g.starts.length - (intOf i).toNat)
      case atStart => exact ⟨0, rfl, Nat.zero_le _, Lib.hid HW.out, Lib.hid (by simp)⟩
      case round =>
        clear HW
        rename Nat => j9
        obtain ⟨j, rfl, hj, HI, HZ2⟩ := hrel
        obtain ⟨-, -, -, -, -, -, -, y7, -, -, -, -⟩ := (HG.out _ HI.out).1
        have hn7 : (g.starts.length : Int) ≤ 100 := by have := HSM.out.starts; omega
        by_cases hlt : j < g.starts.length
        · have hlti : (j : Int) < (g.starts.length : Int) := by omega
          obtain ⟨b, off, hA, h1⟩ := sm_int HL.out.l7 j hlt
          have HSB : Hid (∀ u, Below (w.heap.size + 2) W0 u → SS w.heap.size (w.heap.size + 1) b (off + j) q c (some ⟨b, off, none⟩) g.starts.length p.c7 g.starts[j] u) := Lib.hid fun u hu => by
            obtain ⟨-, -, -, -, -, -, -, y7, -, -, -, -⟩ := (HG.out _ hu).1
            rw [hA] at y7
            exact ⟨y7, h1 u (HB.out.trans (hu.mono (by omega))), (HG.out _ hu).2.2.1⟩
          have HNX : Hid (startE c g.starts[j] = 0 → ∀ x ∈ g.starts.take (j + 1), startE c x = 0) := Lib.hid fun h => all_next hlt HZ2.out h
          have HHT : Hid (∀ v, v ≠ 0 → startE c g.starts[j] = v → R = v) := Lib.hid fun v hv h => by rw [HZ.out, each_hit hlt HZ2.out (by rw [h]; exact hv), h]
          clear h1 hA
          generalize g.starts[j] = s at *
          have HD : Hid (Below (w.heap.size + 2) W0 wr.drew) := Lib.hid HI.out.drew
          cases hb : inB s c.funcs.length with
          | false =>
            have HIN : Hid (∀ V : World, Calls Try.prog 16 #[.int .i64 s, .int .i64 (c.funcs.length : Int)] V fun en w' => en = .returned (.bool false) ∧ w' = V) := Lib.hid fun V => by
              have h := rin_any s (c.funcs.length : Int) V
              have e : (decide (0 ≤ s) && decide (s < (c.funcs.length : Int))) = false := hb
              rwa [e] at h
            have HE : Hid (R = 7) := Lib.hid (HHT.out 7 (by decide) (by simp [startE, hasTy, hb]))
            clear hb
            have hS0 := HSB.out _ HD.out
            go_wp2_with fail
            refine wp_region_held_drew (S := SS w.heap.size (w.heap.size + 1) b (off + j) q c (some ⟨b, off, none⟩) g.starts.length p.c7 s) (by kernel_rfl) hS0 (fun hS => ?_)
            clear hS0 y7
            generalize wr.drew = V at *
            refine wpAnyH_take (i := 0) (oi := { dst := some 96, op := .fieldAddr 33 (.tmp 2) 7, type := 0, pos := "ref.go:138", after := #[], guard := none }) (v := ?_) rfl (by kernel_rfl) (by kernel_rfl) (by kernel_rfl) (fun _ _ _ h => h) (Or.inl ⟨by rfl, ?_⟩) hS ?_
            rotate_left
            · (intro w' hS'; obtain ⟨s0, s1, s2⟩ := hS'; go_simp) <;> with_reducible rfl
            try simp only [Act.put, List.setIfInBounds_toArray, List.set_cons_zero, List.set_cons_succ]
            refine wpAnyH_take (i := 1) (oi := { dst := some 97, op := .load 28 (.tmp 96), type := 28, pos := "ref.go:138", after := #[{ on := 0, ground := .data }], guard := none }) (v := ?_) rfl (by kernel_rfl) (by kernel_rfl) (by kernel_rfl) (fun _ _ _ h => h) (Or.inl ⟨by rfl, ?_⟩) hS ?_
            rotate_left
            · (intro w' hS'; obtain ⟨s0, s1, s2⟩ := hS'; go_simp) <;> with_reducible rfl
            try simp only [Act.put, List.setIfInBounds_toArray, List.set_cons_zero, List.set_cons_succ]
            refine wpAnyH_take (i := 2) (oi := { dst := some 98, op := .move (.tmp 9), type := 3, pos := "ref.go:138", after := #[], guard := none }) (v := ?_) rfl (by kernel_rfl) (by kernel_rfl) (by kernel_rfl) (fun _ _ _ h => h) (Or.inl ⟨by rfl, ?_⟩) hS ?_
            rotate_left
            · (intro w' hS'; obtain ⟨s0, s1, s2⟩ := hS'; go_simp) <;> with_reducible rfl
            try simp only [Act.put, List.setIfInBounds_toArray, List.set_cons_zero, List.set_cons_succ]
            refine wpAnyH_take (i := 3) (oi := { dst := some 99, op := .indexAddr 28 (.tmp 97) (.tmp 98), type := 0, pos := "ref.go:138", after := #[{ on := 1, ground := .data }, { on := 2, ground := .data }], guard := none }) (v := ?_) rfl (by kernel_rfl) (by kernel_rfl) (by kernel_rfl) (fun _ _ _ h => h) (Or.inl ⟨by rfl, ?_⟩) hS ?_
            rotate_left
            · (intro w' hS'; obtain ⟨s0, s1, s2⟩ := hS'; go_simp) <;> with_reducible rfl
            try simp only [Act.put, List.setIfInBounds_toArray, List.set_cons_zero, List.set_cons_succ]
            refine wpAnyH_take (i := 4) (oi := { dst := some 100, op := .load 3 (.tmp 99), type := 3, pos := "ref.go:138", after := #[{ on := 3, ground := .data }], guard := none }) (v := ?_) rfl (by kernel_rfl) (by kernel_rfl) (by kernel_rfl) (fun _ _ _ h => h) (Or.inl ⟨by rfl, ?_⟩) hS ?_
            rotate_left
            · (intro w' hS'; obtain ⟨s0, s1, s2⟩ := hS'; go_simp) <;> with_reducible rfl
            try simp only [Act.put, List.setIfInBounds_toArray, List.set_cons_zero, List.set_cons_succ]
            refine wpAnyH_take (i := 5) (oi := { dst := some 101, op := .fieldAddr 38 (.tmp 3) 1, type := 0, pos := "ref.go:138", after := #[], guard := none }) (v := ?_) rfl (by kernel_rfl) (by kernel_rfl) (by kernel_rfl) (fun _ _ _ h => h) (Or.inl ⟨by rfl, ?_⟩) hS ?_
            rotate_left
            · (intro w' hS'; obtain ⟨s0, s1, s2⟩ := hS'; go_simp) <;> with_reducible rfl
            try simp only [Act.put, List.setIfInBounds_toArray, List.set_cons_zero, List.set_cons_succ]
            refine wpAnyH_take (i := 6) (oi := { dst := some 102, op := .load 28 (.tmp 101), type := 28, pos := "ref.go:138", after := #[{ on := 5, ground := .data }], guard := none }) (v := ?_) rfl (by kernel_rfl) (by kernel_rfl) (by kernel_rfl) (fun _ _ _ h => h) (Or.inl ⟨by rfl, ?_⟩) hS ?_
            rotate_left
            · (intro w' hS'; obtain ⟨s0, s1, s2⟩ := hS'; go_simp) <;> with_reducible rfl
            try simp only [Act.put, List.setIfInBounds_toArray, List.set_cons_zero, List.set_cons_succ]
            refine wpAnyH_take (i := 7) (oi := { dst := some 103, op := .call { callee := .builtin .len, args := #[.tmp 102], argTypes := #[28] }, type := 3, pos := "ref.go:138", after := #[{ on := 6, ground := .data }], guard := none }) (v := ?_) rfl (by kernel_rfl) (by kernel_rfl) (by kernel_rfl) (fun _ _ _ h => h) (Or.inl ⟨by rfl, ?_⟩) hS ?_
            rotate_left
            · (intro w' hS'; obtain ⟨s0, s1, s2⟩ := hS'; go_simp) <;> with_reducible rfl
            try simp only [Act.put, List.setIfInBounds_toArray, List.set_cons_zero, List.set_cons_succ]
            refine wpAnyH_ready (rs := [8]) (by kernel_rfl) (by simp) ?_
            refine AllReadyH.cons (o := { dst := some 104, op := .call { callee := .value (.func 16), args := #[.tmp 100, .tmp 103], argTypes := #[3, 3] }, type := 4, pos := "ref.go:138", after := #[{ on := 4, ground := .data }, { on := 7, ground := .data }], guard := none }) rfl (fun K' hK => ?_) (AllReadyH.nil)
            go_simp
            refine (HIN.out _).mono ?_
            rintro en V1 ⟨rfl, rfl⟩
            go_wp2_with fail
            refine hK.out _ _ (HSB.out _ HD.out) (fun hS => ?_)
            clear hK K'
            try simp only [Act.put, List.setIfInBounds_toArray, List.set_cons_zero, List.set_cons_succ]
            refine wpAnyH_take (i := 9) (oi := { dst := some 105, op := .unOp .not 4 (.tmp 104), type := 4, pos := "ref.go:138", after := #[{ on := 8, ground := .data }], guard := none }) (v := ?_) rfl (by kernel_rfl) (by kernel_rfl) (by kernel_rfl) (fun _ _ _ h => h) (Or.inl ⟨by rfl, ?_⟩) hS ?_
            rotate_left
            · (intro w' hS'; obtain ⟨s0, s1, s2⟩ := hS'; go_simp) <;> with_reducible rfl
            try simp only [Act.put, List.setIfInBounds_toArray, List.set_cons_zero, List.set_cons_succ]
            refine wpAnyH_done (by kernel_rfl) ?_ _
            go_wp2
            go_ret
            exact ⟨by rw [HE.out]; rfl, HB.out.trans (HD.out.mono (by omega))⟩
          | true =>
            have HIN : Hid (∀ V : World, Calls Try.prog 16 #[.int .i64 s, .int .i64 (c.funcs.length : Int)] V fun en w' => en = .returned (.bool true) ∧ w' = V) := Lib.hid fun V => by
              have h := rin_any s (c.funcs.length : Int) V
              have e : (decide (0 ≤ s) && decide (s < (c.funcs.length : Int))) = true := hb
              rwa [e] at h
            have HHB := Lib.hid hb
            have hS0 := HSB.out _ HD.out
            clear hb
            go_wp2_with fail
            refine wp_region_held_drew (S := SS w.heap.size (w.heap.size + 1) b (off + j) q c (some ⟨b, off, none⟩) g.starts.length p.c7 s) (by kernel_rfl) hS0 (fun hS => ?_)
            clear hS0 y7
            generalize wr.drew = V at *
            refine wpAnyH_take (i := 0) (oi := { dst := some 96, op := .fieldAddr 33 (.tmp 2) 7, type := 0, pos := "ref.go:138", after := #[], guard := none }) (v := ?_) rfl (by kernel_rfl) (by kernel_rfl) (by kernel_rfl) (fun _ _ _ h => h) (Or.inl ⟨by rfl, ?_⟩) hS ?_
            rotate_left
            · (intro w' hS'; obtain ⟨s0, s1, s2⟩ := hS'; go_simp) <;> with_reducible rfl
            try simp only [Act.put, List.setIfInBounds_toArray, List.set_cons_zero, List.set_cons_succ]
            refine wpAnyH_take (i := 1) (oi := { dst := some 97, op := .load 28 (.tmp 96), type := 28, pos := "ref.go:138", after := #[{ on := 0, ground := .data }], guard := none }) (v := ?_) rfl (by kernel_rfl) (by kernel_rfl) (by kernel_rfl) (fun _ _ _ h => h) (Or.inl ⟨by rfl, ?_⟩) hS ?_
            rotate_left
            · (intro w' hS'; obtain ⟨s0, s1, s2⟩ := hS'; go_simp) <;> with_reducible rfl
            try simp only [Act.put, List.setIfInBounds_toArray, List.set_cons_zero, List.set_cons_succ]
            refine wpAnyH_take (i := 2) (oi := { dst := some 98, op := .move (.tmp 9), type := 3, pos := "ref.go:138", after := #[], guard := none }) (v := ?_) rfl (by kernel_rfl) (by kernel_rfl) (by kernel_rfl) (fun _ _ _ h => h) (Or.inl ⟨by rfl, ?_⟩) hS ?_
            rotate_left
            · (intro w' hS'; obtain ⟨s0, s1, s2⟩ := hS'; go_simp) <;> with_reducible rfl
            try simp only [Act.put, List.setIfInBounds_toArray, List.set_cons_zero, List.set_cons_succ]
            refine wpAnyH_take (i := 3) (oi := { dst := some 99, op := .indexAddr 28 (.tmp 97) (.tmp 98), type := 0, pos := "ref.go:138", after := #[{ on := 1, ground := .data }, { on := 2, ground := .data }], guard := none }) (v := ?_) rfl (by kernel_rfl) (by kernel_rfl) (by kernel_rfl) (fun _ _ _ h => h) (Or.inl ⟨by rfl, ?_⟩) hS ?_
            rotate_left
            · (intro w' hS'; obtain ⟨s0, s1, s2⟩ := hS'; go_simp) <;> with_reducible rfl
            try simp only [Act.put, List.setIfInBounds_toArray, List.set_cons_zero, List.set_cons_succ]
            refine wpAnyH_take (i := 4) (oi := { dst := some 100, op := .load 3 (.tmp 99), type := 3, pos := "ref.go:138", after := #[{ on := 3, ground := .data }], guard := none }) (v := ?_) rfl (by kernel_rfl) (by kernel_rfl) (by kernel_rfl) (fun _ _ _ h => h) (Or.inl ⟨by rfl, ?_⟩) hS ?_
            rotate_left
            · (intro w' hS'; obtain ⟨s0, s1, s2⟩ := hS'; go_simp) <;> with_reducible rfl
            try simp only [Act.put, List.setIfInBounds_toArray, List.set_cons_zero, List.set_cons_succ]
            refine wpAnyH_take (i := 5) (oi := { dst := some 101, op := .fieldAddr 38 (.tmp 3) 1, type := 0, pos := "ref.go:138", after := #[], guard := none }) (v := ?_) rfl (by kernel_rfl) (by kernel_rfl) (by kernel_rfl) (fun _ _ _ h => h) (Or.inl ⟨by rfl, ?_⟩) hS ?_
            rotate_left
            · (intro w' hS'; obtain ⟨s0, s1, s2⟩ := hS'; go_simp) <;> with_reducible rfl
            try simp only [Act.put, List.setIfInBounds_toArray, List.set_cons_zero, List.set_cons_succ]
            refine wpAnyH_take (i := 6) (oi := { dst := some 102, op := .load 28 (.tmp 101), type := 28, pos := "ref.go:138", after := #[{ on := 5, ground := .data }], guard := none }) (v := ?_) rfl (by kernel_rfl) (by kernel_rfl) (by kernel_rfl) (fun _ _ _ h => h) (Or.inl ⟨by rfl, ?_⟩) hS ?_
            rotate_left
            · (intro w' hS'; obtain ⟨s0, s1, s2⟩ := hS'; go_simp) <;> with_reducible rfl
            try simp only [Act.put, List.setIfInBounds_toArray, List.set_cons_zero, List.set_cons_succ]
            refine wpAnyH_take (i := 7) (oi := { dst := some 103, op := .call { callee := .builtin .len, args := #[.tmp 102], argTypes := #[28] }, type := 3, pos := "ref.go:138", after := #[{ on := 6, ground := .data }], guard := none }) (v := ?_) rfl (by kernel_rfl) (by kernel_rfl) (by kernel_rfl) (fun _ _ _ h => h) (Or.inl ⟨by rfl, ?_⟩) hS ?_
            rotate_left
            · (intro w' hS'; obtain ⟨s0, s1, s2⟩ := hS'; go_simp) <;> with_reducible rfl
            try simp only [Act.put, List.setIfInBounds_toArray, List.set_cons_zero, List.set_cons_succ]
            refine wpAnyH_ready (rs := [8]) (by kernel_rfl) (by simp) ?_
            refine AllReadyH.cons (o := { dst := some 104, op := .call { callee := .value (.func 16), args := #[.tmp 100, .tmp 103], argTypes := #[3, 3] }, type := 4, pos := "ref.go:138", after := #[{ on := 4, ground := .data }, { on := 7, ground := .data }], guard := none }) rfl (fun K' hK => ?_) (AllReadyH.nil)
            go_simp
            refine (HIN.out _).mono ?_
            rintro en V1 ⟨rfl, rfl⟩
            go_wp2_with fail
            refine hK.out _ _ (HSB.out _ HD.out) (fun hS => ?_)
            clear hK K'
            try simp only [Act.put, List.setIfInBounds_toArray, List.set_cons_zero, List.set_cons_succ]
            refine wpAnyH_take (i := 9) (oi := { dst := some 105, op := .unOp .not 4 (.tmp 104), type := 4, pos := "ref.go:138", after := #[{ on := 8, ground := .data }], guard := none }) (v := ?_) rfl (by kernel_rfl) (by kernel_rfl) (by kernel_rfl) (fun _ _ _ h => h) (Or.inl ⟨by rfl, ?_⟩) hS ?_
            rotate_left
            · (intro w' hS'; obtain ⟨s0, s1, s2⟩ := hS'; go_simp) <;> with_reducible rfl
            try simp only [Act.put, List.setIfInBounds_toArray, List.set_cons_zero, List.set_cons_succ]
            refine wpAnyH_done (by kernel_rfl) ?_ _
            clear hS HIN
            obtain ⟨k, hsk, hk⟩ := inB_iff.1 HHB.out
            subst hsk
            have hki : (k : Int) < (c.funcs.length : Int) := by omega
            obtain ⟨bf, of, hAf, hf1⟩ := sm_int HC.out.l1 k hk
            obtain ⟨n, htn, hnl⟩ := inB_iff.1 (HFI.out c.funcs[k] (List.getElem_mem hk))
            have hnli : (n : Int) < (c.types.length : Int) := by omega
            obtain ⟨bt, ot, A1, c1, A2, c2, hAt, ht1⟩ := sm_ft HC.out.l0 n hnl
            have HFT : Hid (startE c (k : Int) = if 0 < c.types[n].1.length ∨ 0 < c.types[n].2.length then 6 else 0) := Lib.hid (by
              have e1 : c.funcs.getD (k : Int).toNat 0 = (n : Int) := by rw [getD_at _ _ k hk, htn]
              have e2 : inB (n : Int) c.types.length = true := inB_iff.2 ⟨n, rfl, hnl⟩
              have e3 : tyAt c.types (n : Int) = c.types[n] := by unfold tyAt; rw [e2]; exact getD_at _ _ n hnl
              unfold startE hasTy fnTy
              rw [HHB.out, e1, e2, e3]
              rfl)
            have HU : Hid (∀ u, Below (w.heap.size + 2) W0 u → (SU w.heap.size (w.heap.size + 1) b (off + j) q c (some ⟨b, off, none⟩) g.starts.length p.c7 k bf (of + k) n bt (ot + n * 2) A1 c.types[n].1.length c1 A2 c.types[n].2.length c2 (some ⟨bf, of, none⟩) (some ⟨bt, ot, none⟩)) u) := Lib.hid fun u hu => by
              have hw := HB.out.trans (hu.mono (Nat.le_add_right w.heap.size 2))
              obtain ⟨u0, u1, -⟩ := HSB.out u hu
              obtain ⟨x0, x1, -, -, -, -, -, -, -, -⟩ := (HG.out _ hu).2
              rw [hAf] at x1
              rw [hAt] at x0
              have f0 := hf1 u hw
              rw [htn] at f0
              obtain ⟨t0, t1, -, -⟩ := ht1 u hw
              exact ⟨u0, u1, x1, f0, x0, t0, t1⟩
            clear hf1 ht1 hAf hAt htn
            generalize c.types[n].1.length = n1 at *
            generalize c.types[n].2.length = n2 at *
            have HD2 : Hid (Below (w.heap.size + 2) W0 V1.drew) := Lib.hid HD.out.drew
            have HZV : Hid (w.heap.size + 2 ≤ V1.drew.heap.size) := Lib.hid (by have := HD2.out.size; have := HSZ.out; omega)
            have hS0 := HU.out _ HD2.out
            go_wp2_with fail
            refine wp_region_held_drew (S := (SU w.heap.size (w.heap.size + 1) b (off + j) q c (some ⟨b, off, none⟩) g.starts.length p.c7 k bf (of + k) n bt (ot + n * 2) A1 n1 c1 A2 n2 c2 (some ⟨bf, of, none⟩) (some ⟨bt, ot, none⟩))) (by kernel_rfl) hS0 (fun hS => ?_)
            clear hS0
            generalize V1.drew = V at *
            refine wpAnyH_take (i := 0) (oi := { dst := some 106, op := .fieldAddr 38 (.tmp 3) 0, type := 0, pos := "ref.go:141", after := #[], guard := none }) (v := ?_) rfl (by kernel_rfl) (by kernel_rfl) (by kernel_rfl) (fun _ _ _ h => h) (Or.inl ⟨by rfl, ?_⟩) hS ?_
            rotate_left
            · (intro w' hS'; obtain ⟨s0, s1, s2, s3, s4, s5, s6⟩ := hS'; go_simp) <;> with_reducible rfl
            try simp only [Act.put, List.setIfInBounds_toArray, List.set_cons_zero, List.set_cons_succ]
            refine wpAnyH_take (i := 1) (oi := { dst := some 107, op := .load 22 (.tmp 106), type := 22, pos := "ref.go:141", after := #[{ on := 0, ground := .data }], guard := none }) (v := ?_) rfl (by kernel_rfl) (by kernel_rfl) (by kernel_rfl) (fun _ _ _ h => h) (Or.inl ⟨by rfl, ?_⟩) hS ?_
            rotate_left
            · (intro w' hS'; obtain ⟨s0, s1, s2, s3, s4, s5, s6⟩ := hS'; go_simp) <;> with_reducible rfl
            try simp only [Act.put, List.setIfInBounds_toArray, List.set_cons_zero, List.set_cons_succ]
            refine wpAnyH_take (i := 2) (oi := { dst := some 108, op := .fieldAddr 38 (.tmp 3) 1, type := 0, pos := "ref.go:141", after := #[], guard := none }) (v := ?_) rfl (by kernel_rfl) (by kernel_rfl) (by kernel_rfl) (fun _ _ _ h => h) (Or.inl ⟨by rfl, ?_⟩) hS ?_
            rotate_left
            · (intro w' hS'; obtain ⟨s0, s1, s2, s3, s4, s5, s6⟩ := hS'; go_simp) <;> with_reducible rfl
            try simp only [Act.put, List.setIfInBounds_toArray, List.set_cons_zero, List.set_cons_succ]
            refine wpAnyH_take (i := 3) (oi := { dst := some 109, op := .load 28 (.tmp 108), type := 28, pos := "ref.go:141", after := #[{ on := 2, ground := .data }], guard := none }) (v := ?_) rfl (by kernel_rfl) (by kernel_rfl) (by kernel_rfl) (fun _ _ _ h => h) (Or.inl ⟨by rfl, ?_⟩) hS ?_
            rotate_left
            · (intro w' hS'; obtain ⟨s0, s1, s2, s3, s4, s5, s6⟩ := hS'; go_simp) <;> with_reducible rfl
            try simp only [Act.put, List.setIfInBounds_toArray, List.set_cons_zero, List.set_cons_succ]
            refine wpAnyH_take (i := 4) (oi := { dst := some 110, op := .fieldAddr 33 (.tmp 2) 7, type := 0, pos := "ref.go:141", after := #[], guard := none }) (v := ?_) rfl (by kernel_rfl) (by kernel_rfl) (by kernel_rfl) (fun _ _ _ h => h) (Or.inl ⟨by rfl, ?_⟩) hS ?_
            rotate_left
            · (intro w' hS'; obtain ⟨s0, s1, s2, s3, s4, s5, s6⟩ := hS'; go_simp) <;> with_reducible rfl
            try simp only [Act.put, List.setIfInBounds_toArray, List.set_cons_zero, List.set_cons_succ]
            refine wpAnyH_take (i := 5) (oi := { dst := some 111, op := .load 28 (.tmp 110), type := 28, pos := "ref.go:141", after := #[{ on := 4, ground := .data }], guard := none }) (v := ?_) rfl (by kernel_rfl) (by kernel_rfl) (by kernel_rfl) (fun _ _ _ h => h) (Or.inl ⟨by rfl, ?_⟩) hS ?_
            rotate_left
            · (intro w' hS'; obtain ⟨s0, s1, s2, s3, s4, s5, s6⟩ := hS'; go_simp) <;> with_reducible rfl
            try simp only [Act.put, List.setIfInBounds_toArray, List.set_cons_zero, List.set_cons_succ]
            refine wpAnyH_take (i := 6) (oi := { dst := some 112, op := .move (.tmp 9), type := 3, pos := "ref.go:141", after := #[], guard := none }) (v := ?_) rfl (by kernel_rfl) (by kernel_rfl) (by kernel_rfl) (fun _ _ _ h => h) (Or.inl ⟨by rfl, ?_⟩) hS ?_
            rotate_left
            · (intro w' hS'; obtain ⟨s0, s1, s2, s3, s4, s5, s6⟩ := hS'; go_simp) <;> with_reducible rfl
            try simp only [Act.put, List.setIfInBounds_toArray, List.set_cons_zero, List.set_cons_succ]
            refine wpAnyH_take (i := 7) (oi := { dst := some 113, op := .indexAddr 28 (.tmp 111) (.tmp 112), type := 0, pos := "ref.go:141", after := #[{ on := 5, ground := .data }, { on := 6, ground := .data }], guard := none }) (v := ?_) rfl (by kernel_rfl) (by kernel_rfl) (by kernel_rfl) (fun _ _ _ h => h) (Or.inl ⟨by rfl, ?_⟩) hS ?_
            rotate_left
            · (intro w' hS'; obtain ⟨s0, s1, s2, s3, s4, s5, s6⟩ := hS'; go_simp) <;> with_reducible rfl
            try simp only [Act.put, List.setIfInBounds_toArray, List.set_cons_zero, List.set_cons_succ]
            refine wpAnyH_take (i := 8) (oi := { dst := some 114, op := .load 3 (.tmp 113), type := 3, pos := "ref.go:141", after := #[{ on := 7, ground := .data }], guard := none }) (v := ?_) rfl (by kernel_rfl) (by kernel_rfl) (by kernel_rfl) (fun _ _ _ h => h) (Or.inl ⟨by rfl, ?_⟩) hS ?_
            rotate_left
            · (intro w' hS'; obtain ⟨s0, s1, s2, s3, s4, s5, s6⟩ := hS'; go_simp) <;> with_reducible rfl
            try simp only [Act.put, List.setIfInBounds_toArray, List.set_cons_zero, List.set_cons_succ]
            refine wpAnyH_take (i := 9) (oi := { dst := some 115, op := .indexAddr 28 (.tmp 109) (.tmp 114), type := 0, pos := "ref.go:141", after := #[{ on := 3, ground := .data }, { on := 8, ground := .data }], guard := none }) (v := ?_) rfl (by kernel_rfl) (by kernel_rfl) (by kernel_rfl) (fun _ _ _ h => h) (Or.inl ⟨by rfl, ?_⟩) hS ?_
            rotate_left
            · (intro w' hS'; obtain ⟨s0, s1, s2, s3, s4, s5, s6⟩ := hS'; go_simp) <;> with_reducible rfl
            try simp only [Act.put, List.setIfInBounds_toArray, List.set_cons_zero, List.set_cons_succ]
            refine wpAnyH_take (i := 10) (oi := { dst := some 116, op := .load 3 (.tmp 115), type := 3, pos := "ref.go:141", after := #[{ on := 9, ground := .data }], guard := none }) (v := ?_) rfl (by kernel_rfl) (by kernel_rfl) (by kernel_rfl) (fun _ _ _ h => h) (Or.inl ⟨by rfl, ?_⟩) hS ?_
            rotate_left
            · (intro w' hS'; obtain ⟨s0, s1, s2, s3, s4, s5, s6⟩ := hS'; go_simp) <;> with_reducible rfl
            try simp only [Act.put, List.setIfInBounds_toArray, List.set_cons_zero, List.set_cons_succ]
            refine wpAnyH_take (i := 11) (oi := { dst := some 117, op := .indexAddr 22 (.tmp 107) (.tmp 116), type := 0, pos := "ref.go:141", after := #[{ on := 1, ground := .data }, { on := 10, ground := .data }], guard := none }) (v := ?_) rfl (by kernel_rfl) (by kernel_rfl) (by kernel_rfl) (fun _ _ _ h => h) (Or.inl ⟨by rfl, ?_⟩) hS ?_
            rotate_left
            · (intro w' hS'; obtain ⟨s0, s1, s2, s3, s4, s5, s6⟩ := hS'; go_simp) <;> with_reducible rfl
            try simp only [Act.put, List.setIfInBounds_toArray, List.set_cons_zero, List.set_cons_succ]
            refine wpAnyH_take (i := 12) (oi := { dst := some 118, op := .load 46 (.tmp 117), type := 46, pos := "ref.go:141", after := #[{ on := 11, ground := .data }], guard := none }) (v := ?_) rfl (by kernel_rfl) (by kernel_rfl) (by kernel_rfl) (fun _ _ _ h => h) (Or.inl ⟨by rfl, ?_⟩) hS ?_
            rotate_left
            · (intro w' hS'; obtain ⟨s0, s1, s2, s3, s4, s5, s6⟩ := hS'; go_simp) <;> with_reducible rfl
            try simp only [Act.put, List.setIfInBounds_toArray, List.set_cons_zero, List.set_cons_succ]
            refine wpAnyH_ready (rs := [13]) (by kernel_rfl) (by simp) ?_
            refine AllReadyH.cons (o := { dst := some 10, op := .alloc 46, type := 0, pos := "ref.go:141", after := #[], guard := none }) rfl (fun K' hK => ?_) (AllReadyH.nil)
            go_simp
            have hk1 := heap_alloc_new V (.cells #[.slice none 0 0, .slice none 0 0] 46)
            have r0' : (V.alloc (.cells #[.slice none 0 0, .slice none 0 0] 46)).cell? ⟨V.heap.size, 0, none⟩ = some (.slice none 0 0) := (blk_cell hk1 0).trans rfl
            have r1' : (V.alloc (.cells #[.slice none 0 0, .slice none 0 0] 46)).cell? ⟨V.heap.size, 1, none⟩ = some (.slice none 0 0) := (blk_cell hk1 1).trans rfl
            have z0 := blk_free hk1 0
            have z1 := blk_free hk1 1
            have hx := blk_set (blk_set hk1 0 (.slice A1 n1 c1)) 1 (.slice A2 n2 c2)
            have r0 := blk_cell hx 0
            have r1 := blk_cell hx 1
            simp only [List.setIfInBounds_toArray, List.set_cons_zero, List.set_cons_succ, List.getElem?_toArray, List.getElem?_cons_zero, List.getElem?_cons_succ] at r0 r1
            have HWA : Hid (Below (w.heap.size + 2) W0 (V.alloc (.cells #[.slice none 0 0, .slice none 0 0] 46))) := Lib.hid (HD2.out.trans (((Below.refl _ _).alloc (Nat.le_refl _) _).mono HZV.out))
            have HWS : Hid (Below (w.heap.size + 2) W0 (V.alloc (.cells #[.slice A1 n1 c1, .slice A2 n2 c2] 46))) := Lib.hid (HD2.out.trans (((Below.refl _ _).alloc (Nat.le_refl _) _).mono HZV.out))
            clear hx hk1
            refine hK.out _ _ (HU.out _ HWA.out) (fun hS => ?_)
            clear hK K'
            try simp only [Act.put, List.setIfInBounds_toArray, List.set_cons_zero, List.set_cons_succ]
            refine wpAnyH_ready (rs := [14]) (by kernel_rfl) (by simp) ?_
            refine AllReadyH.cons (o := { dst := none, op := .store 46 (.tmp 10) (.tmp 118), type := 0, pos := "ref.go:141", after := #[{ on := 13, ground := .data }, { on := 12, ground := .data }, { on := 0, ground := .phase }, { on := 1, ground := .phase }, { on := 2, ground := .phase }, { on := 3, ground := .phase }, { on := 4, ground := .phase }, { on := 5, ground := .phase }, { on := 6, ground := .phase }, { on := 7, ground := .phase }, { on := 8, ground := .phase }, { on := 9, ground := .phase }, { on := 10, ground := .phase }, { on := 11, ground := .phase }, { on := 12, ground := .phase }, { on := 13, ground := .phase }], guard := none }) rfl (fun K' hK => ?_) (AllReadyH.nil)
            go_simp
            refine hK.out _ _ (HU.out _ HWS.out) (fun hS => ?_)
            clear hK K'
            try simp only [Act.put, List.setIfInBounds_toArray, List.set_cons_zero, List.set_cons_succ]
            refine wpAnyH_done (by kernel_rfl) ?_ _
            clear hS r0' r1' z0 z1
            by_cases h1 : n1 = 0
            · have h1i : (n1 : Int) = 0 := by omega
              by_cases h2 : n2 = 0
              · have h2i : (n2 : Int) = 0 := by omega
                have HN := Lib.hid (HNX.out (by rw [HFT.out, if_neg (by omega)]))
                clear h1 h2
                go_wp2
                go_roundw
                case rel => exact ⟨j + 1, by go_num, by omega, HWS, HN⟩
                case measure => simp [intOf]; omega
              · have h2i : ¬ (n2 : Int) = 0 := by omega
                have HE : Hid (R = 6) := Lib.hid (HHT.out 6 (by decide) (by rw [HFT.out, if_pos (by omega)]))
                clear h1 h2
                go_wp2
                go_ret
                exact ⟨by rw [HE.out]; rfl, HB.out.trans (HWS.out.mono (by omega))⟩
            · have h1i : ¬ (n1 : Int) = 0 := by omega
              have HE : Hid (R = 6) := Lib.hid (HHT.out 6 (by decide) (by rw [HFT.out, if_pos (by omega)]))
              clear h1
              go_wp2
              go_ret
              exact ⟨by rw [HE.out]; rfl, HB.out.trans (HWS.out.mono (by omega))⟩
        · have hlti : ¬ (j : Int) < (g.starts.length : Int) := by omega
          have HE : Hid (R = 0) := Lib.hid (by rw [HZ.out]; exact each_all (all_whole hlt HZ2.out))
          go_wp2
          go_ret
          exact ⟨by rw [HE.out]; rfl, HB.out.trans (HI.out.mono (by omega))⟩
end
end Go.Proofs.Ytlbbnnljclndkaa.Cx
