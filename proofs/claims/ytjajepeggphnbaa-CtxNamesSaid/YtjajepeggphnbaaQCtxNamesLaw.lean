/-
  CtxNamesLaw: trammellaw09.CtxNames: whatever the arguments, true. Conditions: the module lies in memory, as one that came in. (Written by wip/tools/genctxnames.py.)
-/
import Derived.Test.YtjajepeggphnbaaQCtxNM
import Derived.Test.YtjajepeggphnbaaQCtxAwake
import Derived.Deep.RegionHeld
namespace Go.Proofs.Ytjajepeggphnbaa.Cx
open Go.RowKit Leb
open _root_.Go.Proofs.Ytjajepeggphnbaa.Mod

theorem str_ne {a b : ByteArray} (h : ¬ a = b) : (a.toList == b.toList) = false := by
  rw [beq_eq_false_iff_ne]
  intro e
  apply h
  rw [ByteArray.toList_eq, ByteArray.toList_eq] at e
  exact ByteArray.ext (Array.ext' e)
/-- What the line of appends reads. -/
def SN (bm bx : Nat) (A : Option Addr) (n c : Nat) (x : GExpo) (V : World) : Prop := V.cell? ⟨bm, 6, none⟩ = some (.slice A n c) ∧ V.cell? ⟨bx, 0, none⟩ = some (.string x.nm) ∧ V.cell? ⟨bx, 1, none⟩ = some (.int .i64 x.kind) ∧ V.cell? ⟨bx, 2, none⟩ = some (.int .i64 x.idx)
theorem sn_keep {bm bx : Nat} {A : Option Addr} {n c : Nat} {x : GExpo} {V V' : World} (h : SN bm bx A n c x V) (h1 : V'.heap[bm]? = V.heap[bm]?) (h2 : V'.heap[bx]? = V.heap[bx]?) : SN bm bx A n c x V' :=
  ⟨(World.cell?_of_block h1).trans h.1, (World.cell?_of_block h2).trans h.2.1, (World.cell?_of_block h2).trans h.2.2.1, (World.cell?_of_block h2).trans h.2.2.2⟩
set_option maxRecDepth 100000 in
set_option maxHeartbeats 16000000 in
theorem names_out (g : GMd) (p : Pls) (w : World) {ok : Nat → Prop} (hm : MdL w ok ok p g) (hg : Opn.GIn g) (i : Int) (name : ByteArray) (hi : i < 0 ∨ (g.expos.length : Int) ≤ i) : Calls Try.prog 6 #[.agg #[.slice p.A0 g.types.length p.c0, .slice p.A1 g.imps.length p.c1, .slice p.A2 g.funcs.length p.c2, .slice p.A3 g.tabs.length p.c3, .slice p.A4 g.mems.length p.c4, .slice p.A5 g.globs.length p.c5, .slice p.A6 g.expos.length p.c6, .slice p.A7 g.starts.length p.c7, .slice p.A8 g.els.length p.c8, .slice p.A9 g.counts.length p.c9, .slice p.A10 g.dats.length p.c10, .slice p.A11 g.cuss.length p.c11], .int .i64 i, .string name] w (BoolIs w true) := by
  have HB1 : Hid (Below w.heap.size w (w.alloc (.cells #[.slice p.A0 g.types.length p.c0, .slice p.A1 g.imps.length p.c1, .slice p.A2 g.funcs.length p.c2, .slice p.A3 g.tabs.length p.c3, .slice p.A4 g.mems.length p.c4, .slice p.A5 g.globs.length p.c5, .slice p.A6 g.expos.length p.c6, .slice p.A7 g.starts.length p.c7, .slice p.A8 g.els.length p.c8, .slice p.A9 g.counts.length p.c9, .slice p.A10 g.dats.length p.c10, .slice p.A11 g.cuss.length p.c11] 33))) := Lib.hid ((Below.refl _ _).alloc (Nat.le_refl _) _)
  have HS1 : Hid ((w.alloc (.cells #[.slice p.A0 g.types.length p.c0, .slice p.A1 g.imps.length p.c1, .slice p.A2 g.funcs.length p.c2, .slice p.A3 g.tabs.length p.c3, .slice p.A4 g.mems.length p.c4, .slice p.A5 g.globs.length p.c5, .slice p.A6 g.expos.length p.c6, .slice p.A7 g.starts.length p.c7, .slice p.A8 g.els.length p.c8, .slice p.A9 g.counts.length p.c9, .slice p.A10 g.dats.length p.c10, .slice p.A11 g.cuss.length p.c11] 33)).heap.size = w.heap.size + 1) := Lib.hid (by simp)
  have HK1 : Hid ((w.alloc (.cells #[.slice p.A0 g.types.length p.c0, .slice p.A1 g.imps.length p.c1, .slice p.A2 g.funcs.length p.c2, .slice p.A3 g.tabs.length p.c3, .slice p.A4 g.mems.length p.c4, .slice p.A5 g.globs.length p.c5, .slice p.A6 g.expos.length p.c6, .slice p.A7 g.starts.length p.c7, .slice p.A8 g.els.length p.c8, .slice p.A9 g.counts.length p.c9, .slice p.A10 g.dats.length p.c10, .slice p.A11 g.cuss.length p.c11] 33)).heap[w.heap.size]? = some (.cells #[.slice p.A0 g.types.length p.c0, .slice p.A1 g.imps.length p.c1, .slice p.A2 g.funcs.length p.c2, .slice p.A3 g.tabs.length p.c3, .slice p.A4 g.mems.length p.c4, .slice p.A5 g.globs.length p.c5, .slice p.A6 g.expos.length p.c6, .slice p.A7 g.starts.length p.c7, .slice p.A8 g.els.length p.c8, .slice p.A9 g.counts.length p.c9, .slice p.A10 g.dats.length p.c10, .slice p.A11 g.cuss.length p.c11] 33 (0, 0))) := Lib.hid (heap_alloc_new w _)
  have HAW := Lib.hid (awake_any (w.alloc (.cells #[.slice p.A0 g.types.length p.c0, .slice p.A1 g.imps.length p.c1, .slice p.A2 g.funcs.length p.c2, .slice p.A3 g.tabs.length p.c3, .slice p.A4 g.mems.length p.c4, .slice p.A5 g.globs.length p.c5, .slice p.A6 g.expos.length p.c6, .slice p.A7 g.starts.length p.c7, .slice p.A8 g.els.length p.c8, .slice p.A9 g.counts.length p.c9, .slice p.A10 g.dats.length p.c10, .slice p.A11 g.cuss.length p.c11] 33)))
  have HSH : Hid (∀ V, Below w.heap.size w V → Calls Try.prog 9 #[.agg #[.slice p.A0 g.types.length p.c0, .slice p.A1 g.imps.length p.c1, .slice p.A2 g.funcs.length p.c2, .slice p.A3 g.tabs.length p.c3, .slice p.A4 g.mems.length p.c4, .slice p.A5 g.globs.length p.c5, .slice p.A6 g.expos.length p.c6, .slice p.A7 g.starts.length p.c7, .slice p.A8 g.els.length p.c8, .slice p.A9 g.counts.length p.c9, .slice p.A10 g.dats.length p.c10, .slice p.A11 g.cuss.length p.c11]] V (Sh.ShortIs V g)) := Lib.hid fun V hV => Sh.short_any g p V ok (hm.keep (fun b h1 h2 => ⟨hV.block b h2, h1⟩) (fun b h1 h2 => ⟨hV.block b h2, h1⟩)) hg
  clear hm hg
  go_enter Try.func6, Try.ntmps6
  go_wp2_with fail
  refine HAW.out.mono ?_
  rintro en V1 ⟨rfl, hb⟩
  have HV1 := Lib.hid (HB1.out.trans (hb.mono HB1.out.size))
  have HM1 := Lib.hid ((hb.block _ (by have := HS1.out; omega)).trans HK1.out)
  have HZ1 : Hid (w.heap.size < V1.heap.size) := Lib.hid (by have := hb.size; have := HS1.out; omega)
  clear hb HAW HK1 HB1 HS1
  have m0 : V1.cell? ⟨w.heap.size, 0, none⟩ = some (.slice p.A0 g.types.length p.c0) := (blk_cell HM1.out 0).trans rfl
  have m1 : V1.cell? ⟨w.heap.size, 1, none⟩ = some (.slice p.A1 g.imps.length p.c1) := (blk_cell HM1.out 1).trans rfl
  have m2 : V1.cell? ⟨w.heap.size, 2, none⟩ = some (.slice p.A2 g.funcs.length p.c2) := (blk_cell HM1.out 2).trans rfl
  have m3 : V1.cell? ⟨w.heap.size, 3, none⟩ = some (.slice p.A3 g.tabs.length p.c3) := (blk_cell HM1.out 3).trans rfl
  have m4 : V1.cell? ⟨w.heap.size, 4, none⟩ = some (.slice p.A4 g.mems.length p.c4) := (blk_cell HM1.out 4).trans rfl
  have m5 : V1.cell? ⟨w.heap.size, 5, none⟩ = some (.slice p.A5 g.globs.length p.c5) := (blk_cell HM1.out 5).trans rfl
  have m6 : V1.cell? ⟨w.heap.size, 6, none⟩ = some (.slice p.A6 g.expos.length p.c6) := (blk_cell HM1.out 6).trans rfl
  have m7 : V1.cell? ⟨w.heap.size, 7, none⟩ = some (.slice p.A7 g.starts.length p.c7) := (blk_cell HM1.out 7).trans rfl
  have m8 : V1.cell? ⟨w.heap.size, 8, none⟩ = some (.slice p.A8 g.els.length p.c8) := (blk_cell HM1.out 8).trans rfl
  have m9 : V1.cell? ⟨w.heap.size, 9, none⟩ = some (.slice p.A9 g.counts.length p.c9) := (blk_cell HM1.out 9).trans rfl
  have m10 : V1.cell? ⟨w.heap.size, 10, none⟩ = some (.slice p.A10 g.dats.length p.c10) := (blk_cell HM1.out 10).trans rfl
  have m11 : V1.cell? ⟨w.heap.size, 11, none⟩ = some (.slice p.A11 g.cuss.length p.c11) := (blk_cell HM1.out 11).trans rfl
  go_wp2_with fail
  refine (HSH.out V1 HV1.out).mono ?_
  rintro en V2 ⟨bs, rfl, h8, hb⟩
  have HV2 := Lib.hid (HV1.out.trans (hb.mono HV1.out.size))
  have HM2 := Lib.hid ((hb.block _ HZ1.out).trans HM1.out)
  have HZ2 : Hid (w.heap.size < V2.heap.size) := Lib.hid (by have := hb.size; have := HZ1.out; omega)
  clear hb HSH HM1 HV1 HZ1 m0 m1 m2 m3 m4 m5 m6 m7 m8 m9 m10 m11
  have m0 : V2.cell? ⟨w.heap.size, 0, none⟩ = some (.slice p.A0 g.types.length p.c0) := (blk_cell HM2.out 0).trans rfl
  have m1 : V2.cell? ⟨w.heap.size, 1, none⟩ = some (.slice p.A1 g.imps.length p.c1) := (blk_cell HM2.out 1).trans rfl
  have m2 : V2.cell? ⟨w.heap.size, 2, none⟩ = some (.slice p.A2 g.funcs.length p.c2) := (blk_cell HM2.out 2).trans rfl
  have m3 : V2.cell? ⟨w.heap.size, 3, none⟩ = some (.slice p.A3 g.tabs.length p.c3) := (blk_cell HM2.out 3).trans rfl
  have m4 : V2.cell? ⟨w.heap.size, 4, none⟩ = some (.slice p.A4 g.mems.length p.c4) := (blk_cell HM2.out 4).trans rfl
  have m5 : V2.cell? ⟨w.heap.size, 5, none⟩ = some (.slice p.A5 g.globs.length p.c5) := (blk_cell HM2.out 5).trans rfl
  have m6 : V2.cell? ⟨w.heap.size, 6, none⟩ = some (.slice p.A6 g.expos.length p.c6) := (blk_cell HM2.out 6).trans rfl
  have m7 : V2.cell? ⟨w.heap.size, 7, none⟩ = some (.slice p.A7 g.starts.length p.c7) := (blk_cell HM2.out 7).trans rfl
  have m8 : V2.cell? ⟨w.heap.size, 8, none⟩ = some (.slice p.A8 g.els.length p.c8) := (blk_cell HM2.out 8).trans rfl
  have m9 : V2.cell? ⟨w.heap.size, 9, none⟩ = some (.slice p.A9 g.counts.length p.c9) := (blk_cell HM2.out 9).trans rfl
  have m10 : V2.cell? ⟨w.heap.size, 10, none⟩ = some (.slice p.A10 g.dats.length p.c10) := (blk_cell HM2.out 10).trans rfl
  have m11 : V2.cell? ⟨w.heap.size, 11, none⟩ = some (.slice p.A11 g.cuss.length p.c11) := (blk_cell HM2.out 11).trans rfl
  cases bs with
  | false =>
    clear h8
    go_wp2
    go_ret
    exact ⟨rfl, HV2.out⟩
  | true =>
    clear h8
    by_cases hi0 : i < 0
    · go_wp2
      go_ret
      exact ⟨rfl, HV2.out⟩
    · have hi1 : (g.expos.length : Int) ≤ i := by omega
      go_wp2
      go_ret
      exact ⟨rfl, HV2.out⟩
set_option maxRecDepth 100000 in
set_option maxHeartbeats 16000000 in
theorem names_in (g : GMd) (b off : Nat) (A0 A1 A2 A3 A4 A5 A7 A8 A9 A10 A11 : Option Addr) (c0 c1 c2 c3 c4 c5 c6 c7 c8 c9 c10 c11 : Nat) (w : World) {ok : Nat → Prop} (hm : MdL w ok ok (⟨A0, A1, A2, A3, A4, A5, (some ⟨b, off, none⟩), A7, A8, A9, A10, A11, c0, c1, c2, c3, c4, c5, c6, c7, c8, c9, c10, c11⟩ : Pls) g) (hg : Opn.GIn g) (k : Nat) (HKX : Hid (k < g.expos.length)) (name : ByteArray) (hnm : name.size ≤ maxLen) : Calls Try.prog 6 #[.agg #[.slice A0 g.types.length c0, .slice A1 g.imps.length c1, .slice A2 g.funcs.length c2, .slice A3 g.tabs.length c3, .slice A4 g.mems.length c4, .slice A5 g.globs.length c5, .slice (some ⟨b, off, none⟩) g.expos.length c6, .slice A7 g.starts.length c7, .slice A8 g.els.length c8, .slice A9 g.counts.length c9, .slice A10 g.dats.length c10, .slice A11 g.cuss.length c11], .int .i64 (k : Int), .string name] w (BoolIs w true) := by
  have HB1 : Hid (Below w.heap.size w (w.alloc (.cells #[.slice A0 g.types.length c0, .slice A1 g.imps.length c1, .slice A2 g.funcs.length c2, .slice A3 g.tabs.length c3, .slice A4 g.mems.length c4, .slice A5 g.globs.length c5, .slice (some ⟨b, off, none⟩) g.expos.length c6, .slice A7 g.starts.length c7, .slice A8 g.els.length c8, .slice A9 g.counts.length c9, .slice A10 g.dats.length c10, .slice A11 g.cuss.length c11] 33))) := Lib.hid ((Below.refl _ _).alloc (Nat.le_refl _) _)
  have HS1 : Hid ((w.alloc (.cells #[.slice A0 g.types.length c0, .slice A1 g.imps.length c1, .slice A2 g.funcs.length c2, .slice A3 g.tabs.length c3, .slice A4 g.mems.length c4, .slice A5 g.globs.length c5, .slice (some ⟨b, off, none⟩) g.expos.length c6, .slice A7 g.starts.length c7, .slice A8 g.els.length c8, .slice A9 g.counts.length c9, .slice A10 g.dats.length c10, .slice A11 g.cuss.length c11] 33)).heap.size = w.heap.size + 1) := Lib.hid (by simp)
  have HK1 : Hid ((w.alloc (.cells #[.slice A0 g.types.length c0, .slice A1 g.imps.length c1, .slice A2 g.funcs.length c2, .slice A3 g.tabs.length c3, .slice A4 g.mems.length c4, .slice A5 g.globs.length c5, .slice (some ⟨b, off, none⟩) g.expos.length c6, .slice A7 g.starts.length c7, .slice A8 g.els.length c8, .slice A9 g.counts.length c9, .slice A10 g.dats.length c10, .slice A11 g.cuss.length c11] 33)).heap[w.heap.size]? = some (.cells #[.slice A0 g.types.length c0, .slice A1 g.imps.length c1, .slice A2 g.funcs.length c2, .slice A3 g.tabs.length c3, .slice A4 g.mems.length c4, .slice A5 g.globs.length c5, .slice (some ⟨b, off, none⟩) g.expos.length c6, .slice A7 g.starts.length c7, .slice A8 g.els.length c8, .slice A9 g.counts.length c9, .slice A10 g.dats.length c10, .slice A11 g.cuss.length c11] 33 (0, 0))) := Lib.hid (heap_alloc_new w _)
  have HAW := Lib.hid (awake_any (w.alloc (.cells #[.slice A0 g.types.length c0, .slice A1 g.imps.length c1, .slice A2 g.funcs.length c2, .slice A3 g.tabs.length c3, .slice A4 g.mems.length c4, .slice A5 g.globs.length c5, .slice (some ⟨b, off, none⟩) g.expos.length c6, .slice A7 g.starts.length c7, .slice A8 g.els.length c8, .slice A9 g.counts.length c9, .slice A10 g.dats.length c10, .slice A11 g.cuss.length c11] 33)))
  have HSH : Hid (∀ V, Below w.heap.size w V → Calls Try.prog 9 #[.agg #[.slice A0 g.types.length c0, .slice A1 g.imps.length c1, .slice A2 g.funcs.length c2, .slice A3 g.tabs.length c3, .slice A4 g.mems.length c4, .slice A5 g.globs.length c5, .slice (some ⟨b, off, none⟩) g.expos.length c6, .slice A7 g.starts.length c7, .slice A8 g.els.length c8, .slice A9 g.counts.length c9, .slice A10 g.dats.length c10, .slice A11 g.cuss.length c11]] V (Sh.ShortIs V g)) := Lib.hid fun V hV => Sh.short_any g (⟨A0, A1, A2, A3, A4, A5, (some ⟨b, off, none⟩), A7, A8, A9, A10, A11, c0, c1, c2, c3, c4, c5, c6, c7, c8, c9, c10, c11⟩ : Pls) V ok (hm.keep (fun b h1 h2 => ⟨hV.block b h2, h1⟩) (fun b h1 h2 => ⟨hV.block b h2, h1⟩)) hg
  have HOF : Hid (∀ V, Below w.heap.size w V → Sm g → Calls Try.prog 10 #[.agg #[.slice A0 g.types.length c0, .slice A1 g.imps.length c1, .slice A2 g.funcs.length c2, .slice A3 g.tabs.length c3, .slice A4 g.mems.length c4, .slice A5 g.globs.length c5, .slice (some ⟨b, off, none⟩) g.expos.length c6, .slice A7 g.starts.length c7, .slice A8 g.els.length c8, .slice A9 g.counts.length c9, .slice A10 g.dats.length c10, .slice A11 g.cuss.length c11]] V (OfIs V g)) := Lib.hid fun V hV hs => of_any g (⟨A0, A1, A2, A3, A4, A5, (some ⟨b, off, none⟩), A7, A8, A9, A10, A11, c0, c1, c2, c3, c4, c5, c6, c7, c8, c9, c10, c11⟩ : Pls) V (hm.keep (fun b h1 h2 => ⟨hV.block b h2, h1⟩) (fun b h1 h2 => ⟨hV.block b h2, h1⟩)) hs
  have HSM : Hid (Sh.P8 g → Sm g ∧ g.expos.length ≤ 70) := Lib.hid fun h => ⟨sm_of h hg, (Sh.p0_len h.1.1.1.1.1.1.1.1).2.2.2.2.2.2.1⟩
  have HL := Lib.hid hm
  have HNM := Lib.hid hnm
  clear hm hg hnm
  go_enter Try.func6, Try.ntmps6
  go_wp2_with fail
  refine HAW.out.mono ?_
  rintro en V1 ⟨rfl, hb⟩
  have HV1 := Lib.hid (HB1.out.trans (hb.mono HB1.out.size))
  have HM1 := Lib.hid ((hb.block _ (by have := HS1.out; omega)).trans HK1.out)
  have HZ1 : Hid (w.heap.size < V1.heap.size) := Lib.hid (by have := hb.size; have := HS1.out; omega)
  clear hb HAW HK1 HB1 HS1
  have m0 : V1.cell? ⟨w.heap.size, 0, none⟩ = some (.slice A0 g.types.length c0) := (blk_cell HM1.out 0).trans rfl
  have m1 : V1.cell? ⟨w.heap.size, 1, none⟩ = some (.slice A1 g.imps.length c1) := (blk_cell HM1.out 1).trans rfl
  have m2 : V1.cell? ⟨w.heap.size, 2, none⟩ = some (.slice A2 g.funcs.length c2) := (blk_cell HM1.out 2).trans rfl
  have m3 : V1.cell? ⟨w.heap.size, 3, none⟩ = some (.slice A3 g.tabs.length c3) := (blk_cell HM1.out 3).trans rfl
  have m4 : V1.cell? ⟨w.heap.size, 4, none⟩ = some (.slice A4 g.mems.length c4) := (blk_cell HM1.out 4).trans rfl
  have m5 : V1.cell? ⟨w.heap.size, 5, none⟩ = some (.slice A5 g.globs.length c5) := (blk_cell HM1.out 5).trans rfl
  have m6 : V1.cell? ⟨w.heap.size, 6, none⟩ = some (.slice (some ⟨b, off, none⟩) g.expos.length c6) := (blk_cell HM1.out 6).trans rfl
  have m7 : V1.cell? ⟨w.heap.size, 7, none⟩ = some (.slice A7 g.starts.length c7) := (blk_cell HM1.out 7).trans rfl
  have m8 : V1.cell? ⟨w.heap.size, 8, none⟩ = some (.slice A8 g.els.length c8) := (blk_cell HM1.out 8).trans rfl
  have m9 : V1.cell? ⟨w.heap.size, 9, none⟩ = some (.slice A9 g.counts.length c9) := (blk_cell HM1.out 9).trans rfl
  have m10 : V1.cell? ⟨w.heap.size, 10, none⟩ = some (.slice A10 g.dats.length c10) := (blk_cell HM1.out 10).trans rfl
  have m11 : V1.cell? ⟨w.heap.size, 11, none⟩ = some (.slice A11 g.cuss.length c11) := (blk_cell HM1.out 11).trans rfl
  go_wp2_with fail
  refine (HSH.out V1 HV1.out).mono ?_
  rintro en V2 ⟨bs, rfl, h8, hb⟩
  have HV2 := Lib.hid (HV1.out.trans (hb.mono HV1.out.size))
  have HM2 := Lib.hid ((hb.block _ HZ1.out).trans HM1.out)
  have HZ2 : Hid (w.heap.size < V2.heap.size) := Lib.hid (by have := hb.size; have := HZ1.out; omega)
  clear hb HSH HM1 HV1 HZ1 m0 m1 m2 m3 m4 m5 m6 m7 m8 m9 m10 m11
  have m0 : V2.cell? ⟨w.heap.size, 0, none⟩ = some (.slice A0 g.types.length c0) := (blk_cell HM2.out 0).trans rfl
  have m1 : V2.cell? ⟨w.heap.size, 1, none⟩ = some (.slice A1 g.imps.length c1) := (blk_cell HM2.out 1).trans rfl
  have m2 : V2.cell? ⟨w.heap.size, 2, none⟩ = some (.slice A2 g.funcs.length c2) := (blk_cell HM2.out 2).trans rfl
  have m3 : V2.cell? ⟨w.heap.size, 3, none⟩ = some (.slice A3 g.tabs.length c3) := (blk_cell HM2.out 3).trans rfl
  have m4 : V2.cell? ⟨w.heap.size, 4, none⟩ = some (.slice A4 g.mems.length c4) := (blk_cell HM2.out 4).trans rfl
  have m5 : V2.cell? ⟨w.heap.size, 5, none⟩ = some (.slice A5 g.globs.length c5) := (blk_cell HM2.out 5).trans rfl
  have m6 : V2.cell? ⟨w.heap.size, 6, none⟩ = some (.slice (some ⟨b, off, none⟩) g.expos.length c6) := (blk_cell HM2.out 6).trans rfl
  have m7 : V2.cell? ⟨w.heap.size, 7, none⟩ = some (.slice A7 g.starts.length c7) := (blk_cell HM2.out 7).trans rfl
  have m8 : V2.cell? ⟨w.heap.size, 8, none⟩ = some (.slice A8 g.els.length c8) := (blk_cell HM2.out 8).trans rfl
  have m9 : V2.cell? ⟨w.heap.size, 9, none⟩ = some (.slice A9 g.counts.length c9) := (blk_cell HM2.out 9).trans rfl
  have m10 : V2.cell? ⟨w.heap.size, 10, none⟩ = some (.slice A10 g.dats.length c10) := (blk_cell HM2.out 10).trans rfl
  have m11 : V2.cell? ⟨w.heap.size, 11, none⟩ = some (.slice A11 g.cuss.length c11) := (blk_cell HM2.out 11).trans rfl
  cases bs with
  | false =>
    clear h8
    go_wp2
    go_ret
    exact ⟨rfl, HV2.out⟩
  | true =>
    have HS := Lib.hid (HSM.out (h8 rfl))
    clear h8 HSM
    have hki : (k : Int) < (g.expos.length : Int) := by have := HKX.out; omega
    go_wp2_with fail
    refine (HOF.out V2 HV2.out HS.out.1).mono ?_
    rintro en V3 ⟨q, rfl, hc, hb⟩
    have HV3 := Lib.hid (HV2.out.trans (hb.mono HV2.out.size))
    have HM3 := Lib.hid ((hb.block _ HZ2.out).trans HM2.out)
    have HZ3 : Hid (w.heap.size < V3.heap.size) := Lib.hid (by have := hb.size; have := HZ2.out; omega)
    clear hb hc HOF HM2 m0 m1 m2 m3 m4 m5 m6 m7 m8 m9 m10 m11
    by_cases he : ofE g = 0
    · have HR := Lib.hid (right_iff.1 he)
      rw [he]
      clear he
      simp only [Plc.vals]
      generalize ofC g = c at *
      have HBA : Hid (Below V3.heap.size V3 (V3.alloc (.cells #[.slice q.A0 c.types.length q.d0, .slice q.A1 c.funcs.length q.d1, .slice q.A2 c.globs.length q.d2, .slice q.A3 c.tabs.length q.d3, .slice q.A4 c.mems.length q.d4, .int .i64 c.hosts, .int .i64 c.vars, .int .i64 c.els, .int .i64 c.dats, .bool c.counted] 38))) := Lib.hid ((Below.refl _ _).alloc (Nat.le_refl _) _)
      have HKA : Hid ((V3.alloc (.cells #[.slice q.A0 c.types.length q.d0, .slice q.A1 c.funcs.length q.d1, .slice q.A2 c.globs.length q.d2, .slice q.A3 c.tabs.length q.d3, .slice q.A4 c.mems.length q.d4, .int .i64 c.hosts, .int .i64 c.vars, .int .i64 c.els, .int .i64 c.dats, .bool c.counted] 38)).heap[w.heap.size]? = some (.cells #[.slice A0 g.types.length c0, .slice A1 g.imps.length c1, .slice A2 g.funcs.length c2, .slice A3 g.tabs.length c3, .slice A4 g.mems.length c4, .slice A5 g.globs.length c5, .slice (some ⟨b, off, none⟩) g.expos.length c6, .slice A7 g.starts.length c7, .slice A8 g.els.length c8, .slice A9 g.counts.length c9, .slice A10 g.dats.length c10, .slice A11 g.cuss.length c11] 33 (0, 0))) := Lib.hid ((HBA.out.block _ HZ3.out).trans HM3.out)
      have m0 : (V3.alloc (.cells #[.slice q.A0 c.types.length q.d0, .slice q.A1 c.funcs.length q.d1, .slice q.A2 c.globs.length q.d2, .slice q.A3 c.tabs.length q.d3, .slice q.A4 c.mems.length q.d4, .int .i64 c.hosts, .int .i64 c.vars, .int .i64 c.els, .int .i64 c.dats, .bool c.counted] 38)).cell? ⟨w.heap.size, 0, none⟩ = some (.slice A0 g.types.length c0) := (blk_cell HKA.out 0).trans rfl
      have m1 : (V3.alloc (.cells #[.slice q.A0 c.types.length q.d0, .slice q.A1 c.funcs.length q.d1, .slice q.A2 c.globs.length q.d2, .slice q.A3 c.tabs.length q.d3, .slice q.A4 c.mems.length q.d4, .int .i64 c.hosts, .int .i64 c.vars, .int .i64 c.els, .int .i64 c.dats, .bool c.counted] 38)).cell? ⟨w.heap.size, 1, none⟩ = some (.slice A1 g.imps.length c1) := (blk_cell HKA.out 1).trans rfl
      have m2 : (V3.alloc (.cells #[.slice q.A0 c.types.length q.d0, .slice q.A1 c.funcs.length q.d1, .slice q.A2 c.globs.length q.d2, .slice q.A3 c.tabs.length q.d3, .slice q.A4 c.mems.length q.d4, .int .i64 c.hosts, .int .i64 c.vars, .int .i64 c.els, .int .i64 c.dats, .bool c.counted] 38)).cell? ⟨w.heap.size, 2, none⟩ = some (.slice A2 g.funcs.length c2) := (blk_cell HKA.out 2).trans rfl
      have m3 : (V3.alloc (.cells #[.slice q.A0 c.types.length q.d0, .slice q.A1 c.funcs.length q.d1, .slice q.A2 c.globs.length q.d2, .slice q.A3 c.tabs.length q.d3, .slice q.A4 c.mems.length q.d4, .int .i64 c.hosts, .int .i64 c.vars, .int .i64 c.els, .int .i64 c.dats, .bool c.counted] 38)).cell? ⟨w.heap.size, 3, none⟩ = some (.slice A3 g.tabs.length c3) := (blk_cell HKA.out 3).trans rfl
      have m4 : (V3.alloc (.cells #[.slice q.A0 c.types.length q.d0, .slice q.A1 c.funcs.length q.d1, .slice q.A2 c.globs.length q.d2, .slice q.A3 c.tabs.length q.d3, .slice q.A4 c.mems.length q.d4, .int .i64 c.hosts, .int .i64 c.vars, .int .i64 c.els, .int .i64 c.dats, .bool c.counted] 38)).cell? ⟨w.heap.size, 4, none⟩ = some (.slice A4 g.mems.length c4) := (blk_cell HKA.out 4).trans rfl
      have m5 : (V3.alloc (.cells #[.slice q.A0 c.types.length q.d0, .slice q.A1 c.funcs.length q.d1, .slice q.A2 c.globs.length q.d2, .slice q.A3 c.tabs.length q.d3, .slice q.A4 c.mems.length q.d4, .int .i64 c.hosts, .int .i64 c.vars, .int .i64 c.els, .int .i64 c.dats, .bool c.counted] 38)).cell? ⟨w.heap.size, 5, none⟩ = some (.slice A5 g.globs.length c5) := (blk_cell HKA.out 5).trans rfl
      have m6 : (V3.alloc (.cells #[.slice q.A0 c.types.length q.d0, .slice q.A1 c.funcs.length q.d1, .slice q.A2 c.globs.length q.d2, .slice q.A3 c.tabs.length q.d3, .slice q.A4 c.mems.length q.d4, .int .i64 c.hosts, .int .i64 c.vars, .int .i64 c.els, .int .i64 c.dats, .bool c.counted] 38)).cell? ⟨w.heap.size, 6, none⟩ = some (.slice (some ⟨b, off, none⟩) g.expos.length c6) := (blk_cell HKA.out 6).trans rfl
      have m7 : (V3.alloc (.cells #[.slice q.A0 c.types.length q.d0, .slice q.A1 c.funcs.length q.d1, .slice q.A2 c.globs.length q.d2, .slice q.A3 c.tabs.length q.d3, .slice q.A4 c.mems.length q.d4, .int .i64 c.hosts, .int .i64 c.vars, .int .i64 c.els, .int .i64 c.dats, .bool c.counted] 38)).cell? ⟨w.heap.size, 7, none⟩ = some (.slice A7 g.starts.length c7) := (blk_cell HKA.out 7).trans rfl
      have m8 : (V3.alloc (.cells #[.slice q.A0 c.types.length q.d0, .slice q.A1 c.funcs.length q.d1, .slice q.A2 c.globs.length q.d2, .slice q.A3 c.tabs.length q.d3, .slice q.A4 c.mems.length q.d4, .int .i64 c.hosts, .int .i64 c.vars, .int .i64 c.els, .int .i64 c.dats, .bool c.counted] 38)).cell? ⟨w.heap.size, 8, none⟩ = some (.slice A8 g.els.length c8) := (blk_cell HKA.out 8).trans rfl
      have m9 : (V3.alloc (.cells #[.slice q.A0 c.types.length q.d0, .slice q.A1 c.funcs.length q.d1, .slice q.A2 c.globs.length q.d2, .slice q.A3 c.tabs.length q.d3, .slice q.A4 c.mems.length q.d4, .int .i64 c.hosts, .int .i64 c.vars, .int .i64 c.els, .int .i64 c.dats, .bool c.counted] 38)).cell? ⟨w.heap.size, 9, none⟩ = some (.slice A9 g.counts.length c9) := (blk_cell HKA.out 9).trans rfl
      have m10 : (V3.alloc (.cells #[.slice q.A0 c.types.length q.d0, .slice q.A1 c.funcs.length q.d1, .slice q.A2 c.globs.length q.d2, .slice q.A3 c.tabs.length q.d3, .slice q.A4 c.mems.length q.d4, .int .i64 c.hosts, .int .i64 c.vars, .int .i64 c.els, .int .i64 c.dats, .bool c.counted] 38)).cell? ⟨w.heap.size, 10, none⟩ = some (.slice A10 g.dats.length c10) := (blk_cell HKA.out 10).trans rfl
      have m11 : (V3.alloc (.cells #[.slice q.A0 c.types.length q.d0, .slice q.A1 c.funcs.length q.d1, .slice q.A2 c.globs.length q.d2, .slice q.A3 c.tabs.length q.d3, .slice q.A4 c.mems.length q.d4, .int .i64 c.hosts, .int .i64 c.vars, .int .i64 c.els, .int .i64 c.dats, .bool c.counted] 38)).cell? ⟨w.heap.size, 11, none⟩ = some (.slice A11 g.cuss.length c11) := (blk_cell HKA.out 11).trans rfl
      obtain ⟨b', off', hA, h1⟩ := sm_expo HL.out.l6 k HKX.out
      obtain ⟨y0, y1, y2⟩ := h1 (V3.alloc (.cells #[.slice q.A0 c.types.length q.d0, .slice q.A1 c.funcs.length q.d1, .slice q.A2 c.globs.length q.d2, .slice q.A3 c.tabs.length q.d3, .slice q.A4 c.mems.length q.d4, .int .i64 c.hosts, .int .i64 c.vars, .int .i64 c.els, .int .i64 c.dats, .bool c.counted] 38)) (HV3.out.trans (HBA.out.mono HV3.out.size))
      have HMEM := Lib.hid (List.getElem_mem HKX.out)
      injection hA with hA
      injection hA with e1 e2 _
      subst e1 e2
      clear h1
      generalize g.expos[k]'HKX.out = x at *
      have HBX : Hid (Below (V3.alloc (.cells #[.slice q.A0 c.types.length q.d0, .slice q.A1 c.funcs.length q.d1, .slice q.A2 c.globs.length q.d2, .slice q.A3 c.tabs.length q.d3, .slice q.A4 c.mems.length q.d4, .int .i64 c.hosts, .int .i64 c.vars, .int .i64 c.els, .int .i64 c.dats, .bool c.counted] 38)).heap.size (V3.alloc (.cells #[.slice q.A0 c.types.length q.d0, .slice q.A1 c.funcs.length q.d1, .slice q.A2 c.globs.length q.d2, .slice q.A3 c.tabs.length q.d3, .slice q.A4 c.mems.length q.d4, .int .i64 c.hosts, .int .i64 c.vars, .int .i64 c.els, .int .i64 c.dats, .bool c.counted] 38)) ((V3.alloc (.cells #[.slice q.A0 c.types.length q.d0, .slice q.A1 c.funcs.length q.d1, .slice q.A2 c.globs.length q.d2, .slice q.A3 c.tabs.length q.d3, .slice q.A4 c.mems.length q.d4, .int .i64 c.hosts, .int .i64 c.vars, .int .i64 c.els, .int .i64 c.dats, .bool c.counted] 38)).alloc (.cells #[.string x.nm, .int .i64 x.kind, .int .i64 x.idx] 58))) := Lib.hid ((Below.refl _ _).alloc (Nat.le_refl _) _)
      have HKX2 : Hid (((V3.alloc (.cells #[.slice q.A0 c.types.length q.d0, .slice q.A1 c.funcs.length q.d1, .slice q.A2 c.globs.length q.d2, .slice q.A3 c.tabs.length q.d3, .slice q.A4 c.mems.length q.d4, .int .i64 c.hosts, .int .i64 c.vars, .int .i64 c.els, .int .i64 c.dats, .bool c.counted] 38)).alloc (.cells #[.string x.nm, .int .i64 x.kind, .int .i64 x.idx] 58)).heap[w.heap.size]? = some (.cells #[.slice A0 g.types.length c0, .slice A1 g.imps.length c1, .slice A2 g.funcs.length c2, .slice A3 g.tabs.length c3, .slice A4 g.mems.length c4, .slice A5 g.globs.length c5, .slice (some ⟨b, off, none⟩) g.expos.length c6, .slice A7 g.starts.length c7, .slice A8 g.els.length c8, .slice A9 g.counts.length c9, .slice A10 g.dats.length c10, .slice A11 g.cuss.length c11] 33 (0, 0))) := Lib.hid ((HBX.out.block _ (by have := HBA.out.size; have := HZ3.out; omega)).trans HKA.out)
      have n0 : ((V3.alloc (.cells #[.slice q.A0 c.types.length q.d0, .slice q.A1 c.funcs.length q.d1, .slice q.A2 c.globs.length q.d2, .slice q.A3 c.tabs.length q.d3, .slice q.A4 c.mems.length q.d4, .int .i64 c.hosts, .int .i64 c.vars, .int .i64 c.els, .int .i64 c.dats, .bool c.counted] 38)).alloc (.cells #[.string x.nm, .int .i64 x.kind, .int .i64 x.idx] 58)).cell? ⟨w.heap.size, 0, none⟩ = some (.slice A0 g.types.length c0) := (blk_cell HKX2.out 0).trans rfl
      have n1 : ((V3.alloc (.cells #[.slice q.A0 c.types.length q.d0, .slice q.A1 c.funcs.length q.d1, .slice q.A2 c.globs.length q.d2, .slice q.A3 c.tabs.length q.d3, .slice q.A4 c.mems.length q.d4, .int .i64 c.hosts, .int .i64 c.vars, .int .i64 c.els, .int .i64 c.dats, .bool c.counted] 38)).alloc (.cells #[.string x.nm, .int .i64 x.kind, .int .i64 x.idx] 58)).cell? ⟨w.heap.size, 1, none⟩ = some (.slice A1 g.imps.length c1) := (blk_cell HKX2.out 1).trans rfl
      have n2 : ((V3.alloc (.cells #[.slice q.A0 c.types.length q.d0, .slice q.A1 c.funcs.length q.d1, .slice q.A2 c.globs.length q.d2, .slice q.A3 c.tabs.length q.d3, .slice q.A4 c.mems.length q.d4, .int .i64 c.hosts, .int .i64 c.vars, .int .i64 c.els, .int .i64 c.dats, .bool c.counted] 38)).alloc (.cells #[.string x.nm, .int .i64 x.kind, .int .i64 x.idx] 58)).cell? ⟨w.heap.size, 2, none⟩ = some (.slice A2 g.funcs.length c2) := (blk_cell HKX2.out 2).trans rfl
      have n3 : ((V3.alloc (.cells #[.slice q.A0 c.types.length q.d0, .slice q.A1 c.funcs.length q.d1, .slice q.A2 c.globs.length q.d2, .slice q.A3 c.tabs.length q.d3, .slice q.A4 c.mems.length q.d4, .int .i64 c.hosts, .int .i64 c.vars, .int .i64 c.els, .int .i64 c.dats, .bool c.counted] 38)).alloc (.cells #[.string x.nm, .int .i64 x.kind, .int .i64 x.idx] 58)).cell? ⟨w.heap.size, 3, none⟩ = some (.slice A3 g.tabs.length c3) := (blk_cell HKX2.out 3).trans rfl
      have n4 : ((V3.alloc (.cells #[.slice q.A0 c.types.length q.d0, .slice q.A1 c.funcs.length q.d1, .slice q.A2 c.globs.length q.d2, .slice q.A3 c.tabs.length q.d3, .slice q.A4 c.mems.length q.d4, .int .i64 c.hosts, .int .i64 c.vars, .int .i64 c.els, .int .i64 c.dats, .bool c.counted] 38)).alloc (.cells #[.string x.nm, .int .i64 x.kind, .int .i64 x.idx] 58)).cell? ⟨w.heap.size, 4, none⟩ = some (.slice A4 g.mems.length c4) := (blk_cell HKX2.out 4).trans rfl
      have n5 : ((V3.alloc (.cells #[.slice q.A0 c.types.length q.d0, .slice q.A1 c.funcs.length q.d1, .slice q.A2 c.globs.length q.d2, .slice q.A3 c.tabs.length q.d3, .slice q.A4 c.mems.length q.d4, .int .i64 c.hosts, .int .i64 c.vars, .int .i64 c.els, .int .i64 c.dats, .bool c.counted] 38)).alloc (.cells #[.string x.nm, .int .i64 x.kind, .int .i64 x.idx] 58)).cell? ⟨w.heap.size, 5, none⟩ = some (.slice A5 g.globs.length c5) := (blk_cell HKX2.out 5).trans rfl
      have n6 : ((V3.alloc (.cells #[.slice q.A0 c.types.length q.d0, .slice q.A1 c.funcs.length q.d1, .slice q.A2 c.globs.length q.d2, .slice q.A3 c.tabs.length q.d3, .slice q.A4 c.mems.length q.d4, .int .i64 c.hosts, .int .i64 c.vars, .int .i64 c.els, .int .i64 c.dats, .bool c.counted] 38)).alloc (.cells #[.string x.nm, .int .i64 x.kind, .int .i64 x.idx] 58)).cell? ⟨w.heap.size, 6, none⟩ = some (.slice (some ⟨b, off, none⟩) g.expos.length c6) := (blk_cell HKX2.out 6).trans rfl
      have n7 : ((V3.alloc (.cells #[.slice q.A0 c.types.length q.d0, .slice q.A1 c.funcs.length q.d1, .slice q.A2 c.globs.length q.d2, .slice q.A3 c.tabs.length q.d3, .slice q.A4 c.mems.length q.d4, .int .i64 c.hosts, .int .i64 c.vars, .int .i64 c.els, .int .i64 c.dats, .bool c.counted] 38)).alloc (.cells #[.string x.nm, .int .i64 x.kind, .int .i64 x.idx] 58)).cell? ⟨w.heap.size, 7, none⟩ = some (.slice A7 g.starts.length c7) := (blk_cell HKX2.out 7).trans rfl
      have n8 : ((V3.alloc (.cells #[.slice q.A0 c.types.length q.d0, .slice q.A1 c.funcs.length q.d1, .slice q.A2 c.globs.length q.d2, .slice q.A3 c.tabs.length q.d3, .slice q.A4 c.mems.length q.d4, .int .i64 c.hosts, .int .i64 c.vars, .int .i64 c.els, .int .i64 c.dats, .bool c.counted] 38)).alloc (.cells #[.string x.nm, .int .i64 x.kind, .int .i64 x.idx] 58)).cell? ⟨w.heap.size, 8, none⟩ = some (.slice A8 g.els.length c8) := (blk_cell HKX2.out 8).trans rfl
      have n9 : ((V3.alloc (.cells #[.slice q.A0 c.types.length q.d0, .slice q.A1 c.funcs.length q.d1, .slice q.A2 c.globs.length q.d2, .slice q.A3 c.tabs.length q.d3, .slice q.A4 c.mems.length q.d4, .int .i64 c.hosts, .int .i64 c.vars, .int .i64 c.els, .int .i64 c.dats, .bool c.counted] 38)).alloc (.cells #[.string x.nm, .int .i64 x.kind, .int .i64 x.idx] 58)).cell? ⟨w.heap.size, 9, none⟩ = some (.slice A9 g.counts.length c9) := (blk_cell HKX2.out 9).trans rfl
      have n10 : ((V3.alloc (.cells #[.slice q.A0 c.types.length q.d0, .slice q.A1 c.funcs.length q.d1, .slice q.A2 c.globs.length q.d2, .slice q.A3 c.tabs.length q.d3, .slice q.A4 c.mems.length q.d4, .int .i64 c.hosts, .int .i64 c.vars, .int .i64 c.els, .int .i64 c.dats, .bool c.counted] 38)).alloc (.cells #[.string x.nm, .int .i64 x.kind, .int .i64 x.idx] 58)).cell? ⟨w.heap.size, 10, none⟩ = some (.slice A10 g.dats.length c10) := (blk_cell HKX2.out 10).trans rfl
      have n11 : ((V3.alloc (.cells #[.slice q.A0 c.types.length q.d0, .slice q.A1 c.funcs.length q.d1, .slice q.A2 c.globs.length q.d2, .slice q.A3 c.tabs.length q.d3, .slice q.A4 c.mems.length q.d4, .int .i64 c.hosts, .int .i64 c.vars, .int .i64 c.els, .int .i64 c.dats, .bool c.counted] 38)).alloc (.cells #[.string x.nm, .int .i64 x.kind, .int .i64 x.idx] 58)).cell? ⟨w.heap.size, 11, none⟩ = some (.slice A11 g.cuss.length c11) := (blk_cell HKX2.out 11).trans rfl
      have HVB0 : Hid (Below w.heap.size w (((V3.alloc (.cells #[.slice q.A0 c.types.length q.d0, .slice q.A1 c.funcs.length q.d1, .slice q.A2 c.globs.length q.d2, .slice q.A3 c.tabs.length q.d3, .slice q.A4 c.mems.length q.d4, .int .i64 c.hosts, .int .i64 c.vars, .int .i64 c.els, .int .i64 c.dats, .bool c.counted] 38)).alloc (.cells #[.string x.nm, .int .i64 x.kind, .int .i64 x.idx] 58)).alloc (.cells #[.slice A0 g.types.length c0, .slice A1 g.imps.length c1, .slice A2 g.funcs.length c2, .slice A3 g.tabs.length c3, .slice A4 g.mems.length c4, .slice A5 g.globs.length c5, .slice (some ⟨b, off, none⟩) g.expos.length c6, .slice A7 g.starts.length c7, .slice A8 g.els.length c8, .slice A9 g.counts.length c9, .slice A10 g.dats.length c10, .slice A11 g.cuss.length c11] 33)).drew ∧ (((V3.alloc (.cells #[.slice q.A0 c.types.length q.d0, .slice q.A1 c.funcs.length q.d1, .slice q.A2 c.globs.length q.d2, .slice q.A3 c.tabs.length q.d3, .slice q.A4 c.mems.length q.d4, .int .i64 c.hosts, .int .i64 c.vars, .int .i64 c.els, .int .i64 c.dats, .bool c.counted] 38)).alloc (.cells #[.string x.nm, .int .i64 x.kind, .int .i64 x.idx] 58)).alloc (.cells #[.slice A0 g.types.length c0, .slice A1 g.imps.length c1, .slice A2 g.funcs.length c2, .slice A3 g.tabs.length c3, .slice A4 g.mems.length c4, .slice A5 g.globs.length c5, .slice (some ⟨b, off, none⟩) g.expos.length c6, .slice A7 g.starts.length c7, .slice A8 g.els.length c8, .slice A9 g.counts.length c9, .slice A10 g.dats.length c10, .slice A11 g.cuss.length c11] 33)).drew.heap[V3.heap.size + 1 + 1]? = some (.cells #[.slice A0 g.types.length c0, .slice A1 g.imps.length c1, .slice A2 g.funcs.length c2, .slice A3 g.tabs.length c3, .slice A4 g.mems.length c4, .slice A5 g.globs.length c5, .slice (some ⟨b, off, none⟩) g.expos.length c6, .slice A7 g.starts.length c7, .slice A8 g.els.length c8, .slice A9 g.counts.length c9, .slice A10 g.dats.length c10, .slice A11 g.cuss.length c11] 33 (0, 0)) ∧ V3.heap.size + 1 + 1 < (((V3.alloc (.cells #[.slice q.A0 c.types.length q.d0, .slice q.A1 c.funcs.length q.d1, .slice q.A2 c.globs.length q.d2, .slice q.A3 c.tabs.length q.d3, .slice q.A4 c.mems.length q.d4, .int .i64 c.hosts, .int .i64 c.vars, .int .i64 c.els, .int .i64 c.dats, .bool c.counted] 38)).alloc (.cells #[.string x.nm, .int .i64 x.kind, .int .i64 x.idx] 58)).alloc (.cells #[.slice A0 g.types.length c0, .slice A1 g.imps.length c1, .slice A2 g.funcs.length c2, .slice A3 g.tabs.length c3, .slice A4 g.mems.length c4, .slice A5 g.globs.length c5, .slice (some ⟨b, off, none⟩) g.expos.length c6, .slice A7 g.starts.length c7, .slice A8 g.els.length c8, .slice A9 g.counts.length c9, .slice A10 g.dats.length c10, .slice A11 g.cuss.length c11] 33)).drew.heap.size) := Lib.hid ⟨HV3.out.trans (((((((Below.refl _ _).alloc (Nat.le_refl _) _).alloc (by simp) _)).alloc (by simp; omega) _).drew).mono HV3.out.size), by
        have h := heap_alloc_new ((V3.alloc (.cells #[.slice q.A0 c.types.length q.d0, .slice q.A1 c.funcs.length q.d1, .slice q.A2 c.globs.length q.d2, .slice q.A3 c.tabs.length q.d3, .slice q.A4 c.mems.length q.d4, .int .i64 c.hosts, .int .i64 c.vars, .int .i64 c.els, .int .i64 c.dats, .bool c.counted] 38)).alloc (.cells #[.string x.nm, .int .i64 x.kind, .int .i64 x.idx] 58)) (.cells #[.slice A0 g.types.length c0, .slice A1 g.imps.length c1, .slice A2 g.funcs.length c2, .slice A3 g.tabs.length c3, .slice A4 g.mems.length c4, .slice A5 g.globs.length c5, .slice (some ⟨b, off, none⟩) g.expos.length c6, .slice A7 g.starts.length c7, .slice A8 g.els.length c8, .slice A9 g.counts.length c9, .slice A10 g.dats.length c10, .slice A11 g.cuss.length c11] 33)
        have e : ((V3.alloc (.cells #[.slice q.A0 c.types.length q.d0, .slice q.A1 c.funcs.length q.d1, .slice q.A2 c.globs.length q.d2, .slice q.A3 c.tabs.length q.d3, .slice q.A4 c.mems.length q.d4, .int .i64 c.hosts, .int .i64 c.vars, .int .i64 c.els, .int .i64 c.dats, .bool c.counted] 38)).alloc (.cells #[.string x.nm, .int .i64 x.kind, .int .i64 x.idx] 58)).heap.size = V3.heap.size + 1 + 1 := by simp
        rw [e] at h
        exact h, by simp⟩
      have hSW : SN w.heap.size (V3.heap.size + 1) (some ⟨b, off, none⟩) g.expos.length c6 x (((V3.alloc (.cells #[.slice q.A0 c.types.length q.d0, .slice q.A1 c.funcs.length q.d1, .slice q.A2 c.globs.length q.d2, .slice q.A3 c.tabs.length q.d3, .slice q.A4 c.mems.length q.d4, .int .i64 c.hosts, .int .i64 c.vars, .int .i64 c.els, .int .i64 c.dats, .bool c.counted] 38)).alloc (.cells #[.string x.nm, .int .i64 x.kind, .int .i64 x.idx] 58)).alloc (.cells #[.slice A0 g.types.length c0, .slice A1 g.imps.length c1, .slice A2 g.funcs.length c2, .slice A3 g.tabs.length c3, .slice A4 g.mems.length c4, .slice A5 g.globs.length c5, .slice (some ⟨b, off, none⟩) g.expos.length c6, .slice A7 g.starts.length c7, .slice A8 g.els.length c8, .slice A9 g.counts.length c9, .slice A10 g.dats.length c10, .slice A11 g.cuss.length c11] 33)).drew := by
        have hb : Below ((V3.alloc (.cells #[.slice q.A0 c.types.length q.d0, .slice q.A1 c.funcs.length q.d1, .slice q.A2 c.globs.length q.d2, .slice q.A3 c.tabs.length q.d3, .slice q.A4 c.mems.length q.d4, .int .i64 c.hosts, .int .i64 c.vars, .int .i64 c.els, .int .i64 c.dats, .bool c.counted] 38)).alloc (.cells #[.string x.nm, .int .i64 x.kind, .int .i64 x.idx] 58)).heap.size ((V3.alloc (.cells #[.slice q.A0 c.types.length q.d0, .slice q.A1 c.funcs.length q.d1, .slice q.A2 c.globs.length q.d2, .slice q.A3 c.tabs.length q.d3, .slice q.A4 c.mems.length q.d4, .int .i64 c.hosts, .int .i64 c.vars, .int .i64 c.els, .int .i64 c.dats, .bool c.counted] 38)).alloc (.cells #[.string x.nm, .int .i64 x.kind, .int .i64 x.idx] 58)) (((V3.alloc (.cells #[.slice q.A0 c.types.length q.d0, .slice q.A1 c.funcs.length q.d1, .slice q.A2 c.globs.length q.d2, .slice q.A3 c.tabs.length q.d3, .slice q.A4 c.mems.length q.d4, .int .i64 c.hosts, .int .i64 c.vars, .int .i64 c.els, .int .i64 c.dats, .bool c.counted] 38)).alloc (.cells #[.string x.nm, .int .i64 x.kind, .int .i64 x.idx] 58)).alloc (.cells #[.slice A0 g.types.length c0, .slice A1 g.imps.length c1, .slice A2 g.funcs.length c2, .slice A3 g.tabs.length c3, .slice A4 g.mems.length c4, .slice A5 g.globs.length c5, .slice (some ⟨b, off, none⟩) g.expos.length c6, .slice A7 g.starts.length c7, .slice A8 g.els.length c8, .slice A9 g.counts.length c9, .slice A10 g.dats.length c10, .slice A11 g.cuss.length c11] 33)).drew := ((Below.refl _ _).alloc (Nat.le_refl _) _).drew
        have e1 : (((V3.alloc (.cells #[.slice q.A0 c.types.length q.d0, .slice q.A1 c.funcs.length q.d1, .slice q.A2 c.globs.length q.d2, .slice q.A3 c.tabs.length q.d3, .slice q.A4 c.mems.length q.d4, .int .i64 c.hosts, .int .i64 c.vars, .int .i64 c.els, .int .i64 c.dats, .bool c.counted] 38)).alloc (.cells #[.string x.nm, .int .i64 x.kind, .int .i64 x.idx] 58)).alloc (.cells #[.slice A0 g.types.length c0, .slice A1 g.imps.length c1, .slice A2 g.funcs.length c2, .slice A3 g.tabs.length c3, .slice A4 g.mems.length c4, .slice A5 g.globs.length c5, .slice (some ⟨b, off, none⟩) g.expos.length c6, .slice A7 g.starts.length c7, .slice A8 g.els.length c8, .slice A9 g.counts.length c9, .slice A10 g.dats.length c10, .slice A11 g.cuss.length c11] 33)).drew.heap[w.heap.size]? = ((V3.alloc (.cells #[.slice q.A0 c.types.length q.d0, .slice q.A1 c.funcs.length q.d1, .slice q.A2 c.globs.length q.d2, .slice q.A3 c.tabs.length q.d3, .slice q.A4 c.mems.length q.d4, .int .i64 c.hosts, .int .i64 c.vars, .int .i64 c.els, .int .i64 c.dats, .bool c.counted] 38)).alloc (.cells #[.string x.nm, .int .i64 x.kind, .int .i64 x.idx] 58)).heap[w.heap.size]? := hb.block _ (by have := HZ3.out; simp; omega)
        have e2 : (((V3.alloc (.cells #[.slice q.A0 c.types.length q.d0, .slice q.A1 c.funcs.length q.d1, .slice q.A2 c.globs.length q.d2, .slice q.A3 c.tabs.length q.d3, .slice q.A4 c.mems.length q.d4, .int .i64 c.hosts, .int .i64 c.vars, .int .i64 c.els, .int .i64 c.dats, .bool c.counted] 38)).alloc (.cells #[.string x.nm, .int .i64 x.kind, .int .i64 x.idx] 58)).alloc (.cells #[.slice A0 g.types.length c0, .slice A1 g.imps.length c1, .slice A2 g.funcs.length c2, .slice A3 g.tabs.length c3, .slice A4 g.mems.length c4, .slice A5 g.globs.length c5, .slice (some ⟨b, off, none⟩) g.expos.length c6, .slice A7 g.starts.length c7, .slice A8 g.els.length c8, .slice A9 g.counts.length c9, .slice A10 g.dats.length c10, .slice A11 g.cuss.length c11] 33)).drew.heap[V3.heap.size + 1]? = ((V3.alloc (.cells #[.slice q.A0 c.types.length q.d0, .slice q.A1 c.funcs.length q.d1, .slice q.A2 c.globs.length q.d2, .slice q.A3 c.tabs.length q.d3, .slice q.A4 c.mems.length q.d4, .int .i64 c.hosts, .int .i64 c.vars, .int .i64 c.els, .int .i64 c.dats, .bool c.counted] 38)).alloc (.cells #[.string x.nm, .int .i64 x.kind, .int .i64 x.idx] 58)).heap[V3.heap.size + 1]? := hb.block _ (by simp)
        have k2 := e2.trans (heap2 V3 _ _ _)
        have k1 := e1.trans HKX2.out
        refine ⟨(blk_cell k1 6).trans rfl, (blk_cell k2 0).trans rfl, (blk_cell k2 1).trans rfl, (blk_cell k2 2).trans rfl⟩
      have HN7 : Hid (g.expos.length ≤ 70) := Lib.hid HS.out.2
      have HMV0 : Hid ((((V3.alloc (.cells #[.slice q.A0 c.types.length q.d0, .slice q.A1 c.funcs.length q.d1, .slice q.A2 c.globs.length q.d2, .slice q.A3 c.tabs.length q.d3, .slice q.A4 c.mems.length q.d4, .int .i64 c.hosts, .int .i64 c.vars, .int .i64 c.els, .int .i64 c.dats, .bool c.counted] 38)).alloc (.cells #[.string x.nm, .int .i64 x.kind, .int .i64 x.idx] 58)).alloc (.cells #[.slice A0 g.types.length c0, .slice A1 g.imps.length c1, .slice A2 g.funcs.length c2, .slice A3 g.tabs.length c3, .slice A4 g.mems.length c4, .slice A5 g.globs.length c5, .slice (some ⟨b, off, none⟩) g.expos.length c6, .slice A7 g.starts.length c7, .slice A8 g.els.length c8, .slice A9 g.counts.length c9, .slice A10 g.dats.length c10, .slice A11 g.cuss.length c11] 33)).drew.heap[w.heap.size]? = some (.cells #[.slice A0 g.types.length c0, .slice A1 g.imps.length c1, .slice A2 g.funcs.length c2, .slice A3 g.tabs.length c3, .slice A4 g.mems.length c4, .slice A5 g.globs.length c5, .slice (some ⟨b, off, none⟩) g.expos.length c6, .slice A7 g.starts.length c7, .slice A8 g.els.length c8, .slice A9 g.counts.length c9, .slice A10 g.dats.length c10, .slice A11 g.cuss.length c11] 33 (0, 0))) := Lib.hid ((((Below.refl _ _).alloc (Nat.le_refl _) _ : Below ((V3.alloc (.cells #[.slice q.A0 c.types.length q.d0, .slice q.A1 c.funcs.length q.d1, .slice q.A2 c.globs.length q.d2, .slice q.A3 c.tabs.length q.d3, .slice q.A4 c.mems.length q.d4, .int .i64 c.hosts, .int .i64 c.vars, .int .i64 c.els, .int .i64 c.dats, .bool c.counted] 38)).alloc (.cells #[.string x.nm, .int .i64 x.kind, .int .i64 x.idx] 58)).heap.size ((V3.alloc (.cells #[.slice q.A0 c.types.length q.d0, .slice q.A1 c.funcs.length q.d1, .slice q.A2 c.globs.length q.d2, .slice q.A3 c.tabs.length q.d3, .slice q.A4 c.mems.length q.d4, .int .i64 c.hosts, .int .i64 c.vars, .int .i64 c.els, .int .i64 c.dats, .bool c.counted] 38)).alloc (.cells #[.string x.nm, .int .i64 x.kind, .int .i64 x.idx] 58)) (((V3.alloc (.cells #[.slice q.A0 c.types.length q.d0, .slice q.A1 c.funcs.length q.d1, .slice q.A2 c.globs.length q.d2, .slice q.A3 c.tabs.length q.d3, .slice q.A4 c.mems.length q.d4, .int .i64 c.hosts, .int .i64 c.vars, .int .i64 c.els, .int .i64 c.dats, .bool c.counted] 38)).alloc (.cells #[.string x.nm, .int .i64 x.kind, .int .i64 x.idx] 58)).alloc (.cells #[.slice A0 g.types.length c0, .slice A1 g.imps.length c1, .slice A2 g.funcs.length c2, .slice A3 g.tabs.length c3, .slice A4 g.mems.length c4, .slice A5 g.globs.length c5, .slice (some ⟨b, off, none⟩) g.expos.length c6, .slice A7 g.starts.length c7, .slice A8 g.els.length c8, .slice A9 g.counts.length c9, .slice A10 g.dats.length c10, .slice A11 g.cuss.length c11] 33))).block _ (by have := HZ3.out; simp; omega)).trans HKX2.out)
      clear HBA HKA HBX HKX2
      go_wp2_with fail
      refine wp_region_held_drew (S := SN w.heap.size (V3.heap.size + 1) (some ⟨b, off, none⟩) g.expos.length c6 x) (by kernel_rfl) hSW (fun hS => ?_)
      clear m0 m1 m2 m3 m4 m5 m6 m7 m8 m9 m10 m11 n0 n1 n2 n3 n4 n5 n6 n7 n8 n9 n10 n11 y0 y1 y2 hSW
      generalize (((V3.alloc (.cells #[.slice q.A0 c.types.length q.d0, .slice q.A1 c.funcs.length q.d1, .slice q.A2 c.globs.length q.d2, .slice q.A3 c.tabs.length q.d3, .slice q.A4 c.mems.length q.d4, .int .i64 c.hosts, .int .i64 c.vars, .int .i64 c.els, .int .i64 c.dats, .bool c.counted] 38)).alloc (.cells #[.string x.nm, .int .i64 x.kind, .int .i64 x.idx] 58)).alloc (.cells #[.slice A0 g.types.length c0, .slice A1 g.imps.length c1, .slice A2 g.funcs.length c2, .slice A3 g.tabs.length c3, .slice A4 g.mems.length c4, .slice A5 g.globs.length c5, .slice (some ⟨b, off, none⟩) g.expos.length c6, .slice A7 g.starts.length c7, .slice A8 g.els.length c8, .slice A9 g.counts.length c9, .slice A10 g.dats.length c10, .slice A11 g.cuss.length c11] 33)).drew = V at *
      have HVB := HVB0
      have HMV := HMV0
      have HS0 := Lib.hid hS
      have HSB : Hid (∀ X, Below V.heap.size V X → SN w.heap.size (V3.heap.size + 1) (some ⟨b, off, none⟩) g.expos.length c6 x X) := Lib.hid fun X hX => sn_keep HS0.out (hX.block _ (by have := HVB.out.2.2; have := HZ3.out; omega)) (hX.block _ (by have := HVB.out.2.2; omega))
      have HLE : Hid (∀ X, Below V.heap.size V X → Lst expoR X ok (some ⟨b, off, none⟩) c6 g.expos) := Lib.hid fun X hX => lst_below (lst_below HL.out.l6 HVB.out.1) hX
      have HI := Lib.hid (Below.refl V.heap.size V)
      have HZS := Lib.hid (Nat.le_refl V.heap.size)
      have HZS : Hid (V.heap.size ≤ V.heap.size) := HZS
      generalize hvs : V.heap.size = vs at HVB HSB HLE HI
      have HZS : Hid (vs ≤ V.heap.size) := Lib.hid (Nat.le_of_eq hvs.symm)
      clear hvs
      clear HVB0 HMV0
      refine wpAnyH_take (i := 1) (oi := { dst := some 46, op := .fieldAddr 33 (.tmp 3) 6, type := 0, pos := "law.go:102", after := #[], guard := none }) (v := ?_) rfl (by kernel_rfl) (by kernel_rfl) (by kernel_rfl) (fun _ _ _ h => h) (Or.inl ⟨by rfl, ?_⟩) hS ?_
      rotate_left
      · (intro w' hS'; obtain ⟨s0, s1, s2, s3⟩ := hS'; go_simp) <;> with_reducible rfl
      try simp only [Act.put, List.setIfInBounds_toArray, List.set_cons_zero, List.set_cons_succ]
      refine wpAnyH_take (i := 2) (oi := { dst := some 47, op := .load 27 (.tmp 46), type := 27, pos := "law.go:102", after := #[{ on := 1, ground := .data }], guard := none }) (v := ?_) rfl (by kernel_rfl) (by kernel_rfl) (by kernel_rfl) (fun _ _ _ h => h) (Or.inl ⟨by rfl, ?_⟩) hS ?_
      rotate_left
      · (intro w' hS'; obtain ⟨s0, s1, s2, s3⟩ := hS'; go_simp) <;> with_reducible rfl
      try simp only [Act.put, List.setIfInBounds_toArray, List.set_cons_zero, List.set_cons_succ]
      refine wpAnyH_take (i := 4) (oi := { dst := some 49, op := .load 58 (.tmp 9), type := 58, pos := "law.go:102", after := #[], guard := none }) (v := ?_) rfl (by kernel_rfl) (by kernel_rfl) (by kernel_rfl) (fun _ _ _ h => h) (Or.inl ⟨by rfl, ?_⟩) hS ?_
      rotate_left
      · (intro w' hS'; obtain ⟨s0, s1, s2, s3⟩ := hS'; go_simp) <;> with_reducible rfl
      try simp only [Act.put, List.setIfInBounds_toArray, List.set_cons_zero, List.set_cons_succ]
      refine wpAnyH_ready (rs := [0, 5]) (by kernel_rfl) (by simp) ?_
      refine AllReadyH.cons (o := { dst := some 45, op := .buildSlice 27 0 #[], type := 27, pos := "law.go:102", after := #[], guard := none }) rfl (fun K' hK => ?_) (AllReadyH.cons (o := { dst := some 50, op := .buildSlice 27 1 #[(0, .tmp 49)], type := 27, pos := "law.go:102", after := #[{ on := 4, ground := .data }], guard := none }) rfl (fun K' hK => ?_) (AllReadyH.nil))
      · go_simp
        have HAL : Hid (Below V.heap.size V (V.alloc (.cells #[] 58))) := Lib.hid ((Below.refl _ _).alloc (Nat.le_refl _) _)
        have HZ : Hid (V.heap.size < (V.alloc (.cells #[] 58)).heap.size) := Lib.hid (by simp)
        have HI2 := Lib.hid (HI.out.trans (HAL.out.mono HZS.out))
        have HZS2 : Hid (vs ≤ (V.alloc (.cells #[] 58)).heap.size) := Lib.hid (Nat.le_trans HZS.out (Nat.le_of_lt HZ.out))
        have HEn : Hid ((V.alloc (.cells #[] 58)).heap[V.heap.size]? = some (.cells #[] 58 (0, 0)) ∧ vs ≤ V.heap.size ∧ V.heap.size < (V.alloc (.cells #[] 58)).heap.size) := Lib.hid ⟨heap_alloc_new V _, HZS.out, HZ.out⟩
        clear HI HAL HZ HZS
        generalize (V.alloc (.cells #[] 58)) = X1 at *
        generalize V.heap.size = b0 at *
        have HI := HI2
        have HZS := HZS2
        have HE := HEn
        clear HI2 HZS2 HEn
        refine hK.out _ _ (HSB.out _ HI.out) (fun hS => ?_)
        clear hK K'
        try simp only [Act.put, List.setIfInBounds_toArray, List.set_cons_zero, List.set_cons_succ]
        refine wpAnyH_ready (rs := [3, 5]) (by kernel_rfl) (by simp) ?_
        refine AllReadyH.cons (o := { dst := some 48, op := .call { callee := .builtin .append, args := #[.tmp 45, .tmp 47], argTypes := #[27, 27] }, type := 27, pos := "law.go:102", after := #[{ on := 0, ground := .data }, { on := 2, ground := .data }], guard := none }) rfl (fun K' hK => ?_) (AllReadyH.cons (o := { dst := some 50, op := .buildSlice 27 1 #[(0, .tmp 49)], type := 27, pos := "law.go:102", after := #[{ on := 4, ground := .data }], guard := none }) rfl (fun K' hK => ?_) (AllReadyH.nil))
        · refine app_step tyE_ rfl (.tmp 45) (.tmp 47) rfl (A := some ⟨b0, 0, none⟩) (n := 0) (c := 0) rfl (own_empty X1 vs _ _ b0 HE.out.2.1 HE.out.1) (X := (some ⟨b, off, none⟩)) (m := g.expos.length) (cx := c6) rfl (src_expo (HLE.out X1 HI.out)) (ones_e _) (by have := HN7.out; omega) HZS.out ?_
          intro R3 d3 X2 ho hg hob
          simp only [Nat.zero_add, List.nil_append] at ho hob ⊢
          have HO := Lib.hid ho
          have HI2 : Hid (Below vs V X2) := Lib.hid (HI.out.grown hg HZS.out (fun k hk => by have hk : some b0 = some k := hk; injection hk with hk; have := HE.out.2.1; omega))
          have HZS2 : Hid (vs ≤ X2.heap.size) := Lib.hid (Nat.le_trans HZS.out hg.size)
          clear ho hg hob HI HE HZS
          have HI := HI2
          have HZS := HZS2
          clear HI2 HZS2
          refine hK.out _ _ (HSB.out _ HI.out) (fun hS => ?_)
          clear hK K'
          try simp only [Act.put, List.setIfInBounds_toArray, List.set_cons_zero, List.set_cons_succ]
          refine wpAnyH_ready (rs := [5]) (by kernel_rfl) (by simp) ?_
          refine AllReadyH.cons (o := { dst := some 50, op := .buildSlice 27 1 #[(0, .tmp 49)], type := 27, pos := "law.go:102", after := #[{ on := 4, ground := .data }], guard := none }) rfl (fun K' hK => ?_) (AllReadyH.nil)
          · go_simp
            have HAL : Hid (Below X2.heap.size X2 (X2.alloc (.cells #[.string x.nm, .int .i64 x.kind, .int .i64 x.idx] 58))) := Lib.hid ((Below.refl _ _).alloc (Nat.le_refl _) _)
            have HZ : Hid (X2.heap.size < (X2.alloc (.cells #[.string x.nm, .int .i64 x.kind, .int .i64 x.idx] 58)).heap.size) := Lib.hid (by simp)
            have HI2 := Lib.hid (HI.out.trans (HAL.out.mono HZS.out))
            have HZS2 : Hid (vs ≤ (X2.alloc (.cells #[.string x.nm, .int .i64 x.kind, .int .i64 x.idx] 58)).heap.size) := Lib.hid (Nat.le_trans HZS.out (Nat.le_of_lt HZ.out))
            have HO2 := Lib.hid (rowSame HO.out fun gb hg => HAL.out.block gb (rowLt HO.out gb hg).2)
            have HPn : Hid ((X2.alloc (.cells #[.string x.nm, .int .i64 x.kind, .int .i64 x.idx] 58)).heap[X2.heap.size]? = some (.cells #[.string x.nm, .int .i64 x.kind, .int .i64 x.idx] 58 (0, 0)) ∧ vs ≤ X2.heap.size ∧ X2.heap.size < (X2.alloc (.cells #[.string x.nm, .int .i64 x.kind, .int .i64 x.idx] 58)).heap.size) := Lib.hid ⟨heap_alloc_new X2 _, HZS.out, HZ.out⟩
            have HNE : Hid (∀ gb, (Value.slice R3 g.expos.length d3).ownBlock = some gb → gb ≠ X2.heap.size) := Lib.hid fun gb hg => by have := (rowLt HO.out gb hg).2; omega
            clear HI HAL HZ HZS HO
            generalize (X2.alloc (.cells #[.string x.nm, .int .i64 x.kind, .int .i64 x.idx] 58)) = X3 at *
            generalize X2.heap.size = b5 at *
            have HI := HI2
            have HZS := HZS2
            have HO := HO2
            have HP := HPn
            clear HI2 HZS2 HPn HO2
            refine hK.out _ _ (HSB.out _ HI.out) (fun hS => ?_)
            clear hK K'
            try simp only [Act.put, List.setIfInBounds_toArray, List.set_cons_zero, List.set_cons_succ]
            refine wpAnyH_ready (rs := [6]) (by kernel_rfl) (by simp) ?_
            refine AllReadyH.cons (o := { dst := some 51, op := .call { callee := .builtin .append, args := #[.tmp 48, .tmp 50], argTypes := #[27, 27] }, type := 27, pos := "law.go:102", after := #[{ on := 3, ground := .data }, { on := 5, ground := .data }, { on := 3, ground := .chain }], guard := none }) rfl (fun K' hK => ?_) (AllReadyH.nil)
            · refine app_step tyE_ rfl (.tmp 48) (.tmp 50) rfl (A := R3) (n := g.expos.length) (c := d3) rfl HO.out (X := some ⟨b5, 0, none⟩) (m := 1) (cx := 1) rfl (src_blk HP.out.1 rfl) (by simp [Value.oneCell']) (by have := HN7.out; omega) HZS.out ?_
              intro R4 d4 X4 ho hg hob
              have HR := Lib.hid (show X4.ownsRow vs 58 3 (.slice R4 (g.expos.length + 1) d4) (g.expos.length + 1) ((g.expos ++ [x]).flatMap ev) by rw [List.flatMap_append]; simpa [ev] using ho)
              have HI2 : Hid (Below vs V X4) := Lib.hid (HI.out.grown hg HZS.out (fun k hk => (rowLt HO.out k hk).1))
              clear ho hg hob HI HO HP HNE
              have HI := HI2
              clear HI2
              have hk := (HI.out.block _ HVB.out.2.2).trans HVB.out.2.1
              have nc : X4.cell? ⟨V3.heap.size + 1 + 1, 6, none⟩ = some (.slice (some ⟨b, off, none⟩) g.expos.length c6) := (blk_cell hk 6).trans rfl
              have nz := blk_free hk 6
              have HKS := Lib.hid (blk_set hk 6 (.slice R4 (g.expos.length + 1) d4))
              have HIS : Hid (∀ b, b < vs → b ≠ V3.heap.size + 1 + 1 → (X4.setCell ⟨V3.heap.size + 1 + 1, 6, none⟩ (.slice R4 (g.expos.length + 1) d4)).heap[b]? = V.heap[b]?) := Lib.hid fun b h1 h2 => (far_set (fun e => h2 e.symm) _).trans (HI.out.block b h1)
              have HIZ : Hid (V.heap.size ≤ (X4.setCell ⟨V3.heap.size + 1 + 1, 6, none⟩ (.slice R4 (g.expos.length + 1) d4)).heap.size ∧ (X4.setCell ⟨V3.heap.size + 1 + 1, 6, none⟩ (.slice R4 (g.expos.length + 1) d4)).os = V.os ∧ (X4.setCell ⟨V3.heap.size + 1 + 1, 6, none⟩ (.slice R4 (g.expos.length + 1) d4)).tape = V.tape ∧ (X4.setCell ⟨V3.heap.size + 1 + 1, 6, none⟩ (.slice R4 (g.expos.length + 1) d4)).output = V.output) := Lib.hid ⟨by simpa using HI.out.size, HI.out.os, HI.out.tape, HI.out.output⟩
              have HRS : Hid ((X4.setCell ⟨V3.heap.size + 1 + 1, 6, none⟩ (.slice R4 (g.expos.length + 1) d4)).ownsRow vs 58 3 (.slice R4 (g.expos.length + 1) d4) (g.expos.length + 1) ((g.expos ++ [x]).flatMap ev)) := Lib.hid (rowSame HR.out fun b hb => far_set (by have := (rowLt HR.out b hb).1; have := HVB.out.2.2; show V3.heap.size + 1 + 1 ≠ b; omega) _)
              have HSS : Hid (SN w.heap.size (V3.heap.size + 1) (some ⟨b, off, none⟩) g.expos.length c6 x (X4.setCell ⟨V3.heap.size + 1 + 1, 6, none⟩ (.slice R4 (g.expos.length + 1) d4))) := Lib.hid (sn_keep (HSB.out _ (Below.refl _ _)) (HIS.out _ (by have := HVB.out.2.2; have := HZ3.out; omega) (by have := HZ3.out; omega)) (HIS.out _ (by have := HVB.out.2.2; omega) (by omega)))
              simp only [List.setIfInBounds_toArray, List.set_cons_zero, List.set_cons_succ] at HKS
              clear HR hk
              refine hK.out _ _ (HSB.out _ HI.out) (fun hS => ?_)
              clear hK K'
              try simp only [Act.put, List.setIfInBounds_toArray, List.set_cons_zero, List.set_cons_succ]
              refine wpAnyH_take (i := 7) (oi := { dst := some 52, op := .fieldAddr 33 (.tmp 10) 6, type := 0, pos := "law.go:102", after := #[{ on := 0, ground := .phase }, { on := 1, ground := .phase }, { on := 2, ground := .phase }, { on := 3, ground := .phase }, { on := 4, ground := .phase }, { on := 5, ground := .phase }, { on := 6, ground := .phase }], guard := none }) (v := ?_) rfl (by kernel_rfl) (by kernel_rfl) (by kernel_rfl) (fun _ _ _ h => h) (Or.inl ⟨by rfl, ?_⟩) hS ?_
              rotate_left
              · (intro w' hS'; obtain ⟨s0, s1, s2, s3⟩ := hS'; go_simp) <;> with_reducible rfl
              try simp only [Act.put, List.setIfInBounds_toArray, List.set_cons_zero, List.set_cons_succ]
              refine wpAnyH_ready (rs := [8]) (by kernel_rfl) (by simp) ?_
              refine AllReadyH.cons (o := { dst := none, op := .store 27 (.tmp 52) (.tmp 51), type := 0, pos := "law.go:102", after := #[{ on := 7, ground := .data }, { on := 6, ground := .data }, { on := 6, ground := .chain }, { on := 0, ground := .phase }, { on := 1, ground := .phase }, { on := 2, ground := .phase }, { on := 3, ground := .phase }, { on := 4, ground := .phase }, { on := 5, ground := .phase }, { on := 6, ground := .phase }], guard := none }) rfl (fun K' hK => ?_) (AllReadyH.nil)
              · go_simp
                refine hK.out _ _ HSS.out (fun hS => ?_)
                clear hK K' nc nz HSS
                generalize X4.setCell ⟨V3.heap.size + 1 + 1, 6, none⟩ (.slice R4 (g.expos.length + 1) d4) = V9 at *
                try simp only [Act.put, List.setIfInBounds_toArray, List.set_cons_zero, List.set_cons_succ]
                refine wpAnyH_done (by kernel_rfl) ?_ _
                obtain ⟨g4, rfl⟩ : ∃ g4, R4 = some ⟨g4, 0, none⟩ := by
                  rcases HRS.out.2 with ⟨_, h0⟩ | ⟨g5, cap, cur, e, _⟩
                  · omega
                  · injection e with e1 _ _
                    exact ⟨g5, e1⟩
                have HB9 : Hid (Below w.heap.size w V9) := Lib.hid (HVB.out.1.trans ⟨HIZ.out.2.1, HIZ.out.2.2.1, HIZ.out.2.2.2, HIZ.out.1, fun b hb => HIS.out b (by have := HVB.out.2.2; have := HZ3.out; omega) (by have := HZ3.out; omega)⟩)
                have HG4 : Hid (vs ≤ g4 ∧ g4 < V9.heap.size) := Lib.hid (rowLt HRS.out g4 rfl)
                have HM9 : Hid (V9.heap[w.heap.size]? = some (.cells #[.slice A0 g.types.length c0, .slice A1 g.imps.length c1, .slice A2 g.funcs.length c2, .slice A3 g.tabs.length c3, .slice A4 g.mems.length c4, .slice A5 g.globs.length c5, .slice (some ⟨b, off, none⟩) g.expos.length c6, .slice A7 g.starts.length c7, .slice A8 g.els.length c8, .slice A9 g.counts.length c9, .slice A10 g.dats.length c10, .slice A11 g.cuss.length c11] 33 (0, 0))) := Lib.hid ((HIS.out _ (by have := HVB.out.2.2; have := HZ3.out; omega) (by have := HZ3.out; omega)).trans HMV.out)
                have HMD : Hid (∀ X, (∀ b, b < w.heap.size → X.heap[b]? = w.heap[b]?) → ∀ (l : List GExpo), X.ownsRow vs 58 3 (.slice (some ⟨g4, 0, none⟩) (g.expos.length + 1) d4) (g.expos.length + 1) (l.flatMap ev) → l.length = g.expos.length + 1 → MdL X (fun _ => True) (fun _ => True) (⟨A0, A1, A2, A3, A4, A5, (some ⟨g4, 0, none⟩), A7, A8, A9, A10, A11, c0, c1, c2, c3, c4, c5, d4, c7, c8, c9, c10, c11⟩ : Pls) (withE g l)) := Lib.hid fun X hX l hr hl => by
                  have h := HL.out.keep (w' := X) (ok' := fun _ => True) (okF' := fun _ => True) (fun b _ hb => ⟨hX b hb, trivial⟩) (fun b _ hb => ⟨hX b hb, trivial⟩)
                  exact ⟨h.l0, h.l1, h.l2, h.l3, h.l4, h.l5, own_expo hr hl.symm (fun _ _ => trivial), h.l7, h.l8, h.l9, h.l10, h.l11⟩
                have HO9 : Hid (Calls Try.prog 10 #[.agg #[.slice A0 g.types.length c0, .slice A1 g.imps.length c1, .slice A2 g.funcs.length c2, .slice A3 g.tabs.length c3, .slice A4 g.mems.length c4, .slice A5 g.globs.length c5, .slice (some ⟨g4, 0, none⟩) (g.expos.length + 1) d4, .slice A7 g.starts.length c7, .slice A8 g.els.length c8, .slice A9 g.counts.length c9, .slice A10 g.dats.length c10, .slice A11 g.cuss.length c11]] V9 (OfIs V9 (withE g (g.expos ++ [x])))) := Lib.hid (by
                  have h := of_any (withE g (g.expos ++ [x])) (⟨A0, A1, A2, A3, A4, A5, (some ⟨g4, 0, none⟩), A7, A8, A9, A10, A11, c0, c1, c2, c3, c4, c5, d4, c7, c8, c9, c10, c11⟩ : Pls) V9 (HMD.out V9 (fun b hb => HB9.out.block b hb) _ HRS.out (by simp)) (withE_sm HS.out.1 (by have := HN7.out; omega) x (HS.out.1.ex x HMEM.out))
                  rw [show (withE g (g.expos ++ [x])).expos.length = g.expos.length + 1 from by simp [withE]] at h
                  exact h)
                have HE9 : Hid (ofE (withE g (g.expos ++ [x])) = 8) := Lib.hid (again_8 HR.out x HMEM.out)
                unfold OfIs at HO9
                rw [HE9.out] at HO9
                have n0 : V9.cell? ⟨V3.heap.size + 1 + 1, 0, none⟩ = some (.slice A0 g.types.length c0) := (blk_cell HKS.out 0).trans rfl
                have n1 : V9.cell? ⟨V3.heap.size + 1 + 1, 1, none⟩ = some (.slice A1 g.imps.length c1) := (blk_cell HKS.out 1).trans rfl
                have n2 : V9.cell? ⟨V3.heap.size + 1 + 1, 2, none⟩ = some (.slice A2 g.funcs.length c2) := (blk_cell HKS.out 2).trans rfl
                have n3 : V9.cell? ⟨V3.heap.size + 1 + 1, 3, none⟩ = some (.slice A3 g.tabs.length c3) := (blk_cell HKS.out 3).trans rfl
                have n4 : V9.cell? ⟨V3.heap.size + 1 + 1, 4, none⟩ = some (.slice A4 g.mems.length c4) := (blk_cell HKS.out 4).trans rfl
                have n5 : V9.cell? ⟨V3.heap.size + 1 + 1, 5, none⟩ = some (.slice A5 g.globs.length c5) := (blk_cell HKS.out 5).trans rfl
                have n6 : V9.cell? ⟨V3.heap.size + 1 + 1, 6, none⟩ = some (.slice (some ⟨g4, 0, none⟩) (g.expos.length + 1) d4) := (blk_cell HKS.out 6).trans rfl
                have n7 : V9.cell? ⟨V3.heap.size + 1 + 1, 7, none⟩ = some (.slice A7 g.starts.length c7) := (blk_cell HKS.out 7).trans rfl
                have n8 : V9.cell? ⟨V3.heap.size + 1 + 1, 8, none⟩ = some (.slice A8 g.els.length c8) := (blk_cell HKS.out 8).trans rfl
                have n9 : V9.cell? ⟨V3.heap.size + 1 + 1, 9, none⟩ = some (.slice A9 g.counts.length c9) := (blk_cell HKS.out 9).trans rfl
                have n10 : V9.cell? ⟨V3.heap.size + 1 + 1, 10, none⟩ = some (.slice A10 g.dats.length c10) := (blk_cell HKS.out 10).trans rfl
                have n11 : V9.cell? ⟨V3.heap.size + 1 + 1, 11, none⟩ = some (.slice A11 g.cuss.length c11) := (blk_cell HKS.out 11).trans rfl
                clear HE9 hS HIS HIZ
                go_wp2_with fail
                refine HO9.out.mono ?_
                rintro en V10 ⟨q9, rfl, _, hb⟩
                simp only [Plc.vals]
                generalize ofC (withE g (g.expos ++ [x])) = k9 at *
                have HBL : Hid (Below V9.heap.size V9 (V10.alloc (.cells #[.slice q9.A0 k9.types.length q9.d0, .slice q9.A1 k9.funcs.length q9.d1, .slice q9.A2 k9.globs.length q9.d2, .slice q9.A3 k9.tabs.length q9.d3, .slice q9.A4 k9.mems.length q9.d4, .int .i64 k9.hosts, .int .i64 k9.vars, .int .i64 k9.els, .int .i64 k9.dats, .bool k9.counted] 38))) := Lib.hid (hb.trans (((Below.refl _ _).alloc (Nat.le_refl _) _).mono hb.size))
                have HWL := Lib.hid (HB9.out.trans (HBL.out.mono HB9.out.size))
                have m6 : (V10.alloc (.cells #[.slice q9.A0 k9.types.length q9.d0, .slice q9.A1 k9.funcs.length q9.d1, .slice q9.A2 k9.globs.length q9.d2, .slice q9.A3 k9.tabs.length q9.d3, .slice q9.A4 k9.mems.length q9.d4, .int .i64 k9.hosts, .int .i64 k9.vars, .int .i64 k9.els, .int .i64 k9.dats, .bool k9.counted] 38)).cell? ⟨w.heap.size, 6, none⟩ = some (.slice (some ⟨b, off, none⟩) g.expos.length c6) := (blk_cell ((HBL.out.block _ (by have := HG4.out; have := HVB.out.2.2; have := HZ3.out; omega)).trans HM9.out) 6).trans rfl
                have HKL := Lib.hid ((HBL.out.block _ (by have := HG4.out; have := HVB.out.2.2; omega)).trans HKS.out)
                have HRL : Hid ((V10.alloc (.cells #[.slice q9.A0 k9.types.length q9.d0, .slice q9.A1 k9.funcs.length q9.d1, .slice q9.A2 k9.globs.length q9.d2, .slice q9.A3 k9.tabs.length q9.d3, .slice q9.A4 k9.mems.length q9.d4, .int .i64 k9.hosts, .int .i64 k9.vars, .int .i64 k9.els, .int .i64 k9.dats, .bool k9.counted] 38)).ownsRow vs 58 3 (.slice (some ⟨g4, 0, none⟩) (g.expos.length + 1) d4) (g.expos.length + 1) ((g.expos ++ [x]).flatMap ev)) := Lib.hid (rowSame HRS.out fun b hb => HBL.out.block b (rowLt HRS.out b hb).2)
                clear hb HO9 n0 n1 n2 n3 n4 n5 n6 n7 n8 n9 n10 n11 HB9 HM9 HKS HRS HBL
                go_wp2_with fail
                generalize (V10.alloc (.cells #[.slice q9.A0 k9.types.length q9.d0, .slice q9.A1 k9.funcs.length q9.d1, .slice q9.A2 k9.globs.length q9.d2, .slice q9.A3 k9.tabs.length q9.d3, .slice q9.A4 k9.mems.length q9.d4, .int .i64 k9.hosts, .int .i64 k9.vars, .int .i64 k9.els, .int .i64 k9.dats, .bool k9.counted] 38)) = VL at *
                have hn7 : (g.expos.length : Int) ≤ 70 := by have := HN7.out; omega
                go_loopw [13] (fun i wr => ∃ j : Nat, i = .int .i64 (j : Int) ∧ j ≤ g.expos.length ∧ wr = VL ∧ Hid (∀ y ∈ g.expos.take j, y.nm ≠ name)) (fun i _ => g.expos.length - (intOf i).toNat)
                case atStart => exact ⟨0, rfl, Nat.zero_le _, rfl, Lib.hid (by simp)⟩
                case round =>
                  obtain ⟨j, rfl, hj, hwr, HJ⟩ := hrel
                  subst wr
                  by_cases hlt : j < g.expos.length
                  · have hlti : (j : Int) < (g.expos.length : Int) := by omega
                    obtain ⟨b', off', hA, h1⟩ := sm_expo HL.out.l6 j hlt
                    obtain ⟨y0, _, _⟩ := h1 VL HWL.out
                    injection hA with hA
                    injection hA with e1 e2 _
                    subst e1 e2
                    have HNX : Hid (g.expos[j].nm ≠ name → ∀ y ∈ g.expos.take (j + 1), y.nm ≠ name) := Lib.hid fun h => all_next hlt HJ.out h
                    clear h1
                    generalize g.expos[j].nm = yn at *
                    by_cases hy : yn = name
                    · subst hy
                      clear HNX
                      go_wp2
                      go_ret
                      exact ⟨rfl, HWL.out⟩
                    · have HN := Lib.hid (HNX.out hy)
                      have hyb : (yn.toList == name.toList) = false := str_ne hy
                      clear HNX
                      go_wp2
                      go_roundw
                      case rel => exact ⟨j + 1, by go_num, by omega, by trivial, HN⟩
                      case measure => simp [intOf]; omega
                  · have hlti : ¬ (j : Int) < (g.expos.length : Int) := by omega
                    have HNO : Hid (∀ y ∈ g.expos, y.nm ≠ name) := Lib.hid (all_whole hlt HJ.out)
                    clear HJ
                    obtain ⟨hr2, hc2, hz2⟩ := own_name HRL.out name
                    have HR2 := Lib.hid hr2
                    have n6 : VL.cell? ⟨V3.heap.size + 1 + 1, 6, none⟩ = some (.slice (some ⟨g4, 0, none⟩) (g.expos.length + 1) d4) := (blk_cell HKL.out 6).trans rfl
                    have HFM : Hid (∀ b, b ≠ g4 → (VL.setCell ⟨g4, g.expos.length * 3, none⟩ (.string name)).heap[b]? = VL.heap[b]?) := Lib.hid fun b hb => far_set (fun e => hb e.symm) _
                    have HWM : Hid (Below w.heap.size w (VL.setCell ⟨g4, g.expos.length * 3, none⟩ (.string name))) := Lib.hid (HWL.out.trans ⟨rfl, rfl, rfl, by simp, fun b hb => HFM.out b (by have := HG4.out; have := HVB.out.2.2; have := HZ3.out; omega)⟩)
                    have HOM : Hid (Calls Try.prog 10 #[.agg #[.slice A0 g.types.length c0, .slice A1 g.imps.length c1, .slice A2 g.funcs.length c2, .slice A3 g.tabs.length c3, .slice A4 g.mems.length c4, .slice A5 g.globs.length c5, .slice (some ⟨g4, 0, none⟩) (g.expos.length + 1) d4, .slice A7 g.starts.length c7, .slice A8 g.els.length c8, .slice A9 g.counts.length c9, .slice A10 g.dats.length c10, .slice A11 g.cuss.length c11]] (VL.setCell ⟨g4, g.expos.length * 3, none⟩ (.string name)) (OfIs (VL.setCell ⟨g4, g.expos.length * 3, none⟩ (.string name)) (withE g (g.expos ++ [{ x with nm := name }])))) := Lib.hid (by
                      have h := of_any (withE g (g.expos ++ [{ x with nm := name }])) (⟨A0, A1, A2, A3, A4, A5, (some ⟨g4, 0, none⟩), A7, A8, A9, A10, A11, c0, c1, c2, c3, c4, c5, d4, c7, c8, c9, c10, c11⟩ : Pls) (VL.setCell ⟨g4, g.expos.length * 3, none⟩ (.string name)) (HMD.out _ (fun b hb => HWM.out.block b hb) _ HR2.out (by simp)) (withE_sm HS.out.1 (by have := HN7.out; omega) _ HNM.out)
                      rw [show (withE g (g.expos ++ [{ x with nm := name }])).expos.length = g.expos.length + 1 from by simp [withE]] at h
                      exact h)
                    unfold OfIs at HOM
                    rw [again_0 HR.out x HMEM.out name HNO.out] at HOM
                    have HKM := Lib.hid ((HFM.out (V3.heap.size + 1 + 1) (by have := HG4.out; have := HVB.out.2.2; omega)).trans HKL.out)
                    have k0 : (VL.setCell ⟨g4, g.expos.length * 3, none⟩ (.string name)).cell? ⟨V3.heap.size + 1 + 1, 0, none⟩ = some (.slice A0 g.types.length c0) := (blk_cell HKM.out 0).trans rfl
                    have k1 : (VL.setCell ⟨g4, g.expos.length * 3, none⟩ (.string name)).cell? ⟨V3.heap.size + 1 + 1, 1, none⟩ = some (.slice A1 g.imps.length c1) := (blk_cell HKM.out 1).trans rfl
                    have k2 : (VL.setCell ⟨g4, g.expos.length * 3, none⟩ (.string name)).cell? ⟨V3.heap.size + 1 + 1, 2, none⟩ = some (.slice A2 g.funcs.length c2) := (blk_cell HKM.out 2).trans rfl
                    have k3 : (VL.setCell ⟨g4, g.expos.length * 3, none⟩ (.string name)).cell? ⟨V3.heap.size + 1 + 1, 3, none⟩ = some (.slice A3 g.tabs.length c3) := (blk_cell HKM.out 3).trans rfl
                    have k4 : (VL.setCell ⟨g4, g.expos.length * 3, none⟩ (.string name)).cell? ⟨V3.heap.size + 1 + 1, 4, none⟩ = some (.slice A4 g.mems.length c4) := (blk_cell HKM.out 4).trans rfl
                    have k5 : (VL.setCell ⟨g4, g.expos.length * 3, none⟩ (.string name)).cell? ⟨V3.heap.size + 1 + 1, 5, none⟩ = some (.slice A5 g.globs.length c5) := (blk_cell HKM.out 5).trans rfl
                    have k6 : (VL.setCell ⟨g4, g.expos.length * 3, none⟩ (.string name)).cell? ⟨V3.heap.size + 1 + 1, 6, none⟩ = some (.slice (some ⟨g4, 0, none⟩) (g.expos.length + 1) d4) := (blk_cell HKM.out 6).trans rfl
                    have k7 : (VL.setCell ⟨g4, g.expos.length * 3, none⟩ (.string name)).cell? ⟨V3.heap.size + 1 + 1, 7, none⟩ = some (.slice A7 g.starts.length c7) := (blk_cell HKM.out 7).trans rfl
                    have k8 : (VL.setCell ⟨g4, g.expos.length * 3, none⟩ (.string name)).cell? ⟨V3.heap.size + 1 + 1, 8, none⟩ = some (.slice A8 g.els.length c8) := (blk_cell HKM.out 8).trans rfl
                    have k9 : (VL.setCell ⟨g4, g.expos.length * 3, none⟩ (.string name)).cell? ⟨V3.heap.size + 1 + 1, 9, none⟩ = some (.slice A9 g.counts.length c9) := (blk_cell HKM.out 9).trans rfl
                    have k10 : (VL.setCell ⟨g4, g.expos.length * 3, none⟩ (.string name)).cell? ⟨V3.heap.size + 1 + 1, 10, none⟩ = some (.slice A10 g.dats.length c10) := (blk_cell HKM.out 10).trans rfl
                    have k11 : (VL.setCell ⟨g4, g.expos.length * 3, none⟩ (.string name)).cell? ⟨V3.heap.size + 1 + 1, 11, none⟩ = some (.slice A11 g.cuss.length c11) := (blk_cell HKM.out 11).trans rfl
                    clear hr2 HRL HMD HKL
                    go_wp2_with fail
                    refine HOM.out.mono ?_
                    rintro en V12 ⟨q12, rfl, _, hb⟩
                    simp only [Plc.vals]
                    generalize ofC (withE g (g.expos ++ [{ x with nm := name }])) = k12 at *
                    have HWZ := Lib.hid (HWM.out.trans (hb.mono HWM.out.size))
                    clear hb HOM k0 k1 k2 k3 k4 k5 k6 k7 k8 k9 k10 k11
                    go_wp2
                    go_ret
                    exact ⟨rfl, HWZ.out.trans (((Below.refl _ _).alloc (Nat.le_refl _) _).mono HWZ.out.size)⟩
        · go_simp
          have HAL : Hid (Below X1.heap.size X1 (X1.alloc (.cells #[.string x.nm, .int .i64 x.kind, .int .i64 x.idx] 58))) := Lib.hid ((Below.refl _ _).alloc (Nat.le_refl _) _)
          have HZ : Hid (X1.heap.size < (X1.alloc (.cells #[.string x.nm, .int .i64 x.kind, .int .i64 x.idx] 58)).heap.size) := Lib.hid (by simp)
          have HI2 := Lib.hid (HI.out.trans (HAL.out.mono HZS.out))
          have HZS2 : Hid (vs ≤ (X1.alloc (.cells #[.string x.nm, .int .i64 x.kind, .int .i64 x.idx] 58)).heap.size) := Lib.hid (Nat.le_trans HZS.out (Nat.le_of_lt HZ.out))
          have HE2 := Lib.hid (And.intro ((HAL.out.block _ HE.out.2.2).trans HE.out.1) (And.intro HE.out.2.1 (Nat.lt_trans HE.out.2.2 HZ.out)))
          have HB05 : Hid (b0 ≠ X1.heap.size) := Lib.hid (by have := HE.out.2.2; omega)
          have HPn : Hid ((X1.alloc (.cells #[.string x.nm, .int .i64 x.kind, .int .i64 x.idx] 58)).heap[X1.heap.size]? = some (.cells #[.string x.nm, .int .i64 x.kind, .int .i64 x.idx] 58 (0, 0)) ∧ vs ≤ X1.heap.size ∧ X1.heap.size < (X1.alloc (.cells #[.string x.nm, .int .i64 x.kind, .int .i64 x.idx] 58)).heap.size) := Lib.hid ⟨heap_alloc_new X1 _, HZS.out, HZ.out⟩
          clear HI HAL HZ HZS HE
          generalize (X1.alloc (.cells #[.string x.nm, .int .i64 x.kind, .int .i64 x.idx] 58)) = X2 at *
          generalize X1.heap.size = b5 at *
          have HI := HI2
          have HZS := HZS2
          have HE := HE2
          have HP := HPn
          clear HI2 HZS2 HPn HE2
          refine hK.out _ _ (HSB.out _ HI.out) (fun hS => ?_)
          clear hK K'
          try simp only [Act.put, List.setIfInBounds_toArray, List.set_cons_zero, List.set_cons_succ]
          refine wpAnyH_ready (rs := [3]) (by kernel_rfl) (by simp) ?_
          refine AllReadyH.cons (o := { dst := some 48, op := .call { callee := .builtin .append, args := #[.tmp 45, .tmp 47], argTypes := #[27, 27] }, type := 27, pos := "law.go:102", after := #[{ on := 0, ground := .data }, { on := 2, ground := .data }], guard := none }) rfl (fun K' hK => ?_) (AllReadyH.nil)
          · refine app_step tyE_ rfl (.tmp 45) (.tmp 47) rfl (A := some ⟨b0, 0, none⟩) (n := 0) (c := 0) rfl (own_empty X2 vs _ _ b0 HE.out.2.1 HE.out.1) (X := (some ⟨b, off, none⟩)) (m := g.expos.length) (cx := c6) rfl (src_expo (HLE.out X2 HI.out)) (ones_e _) (by have := HN7.out; omega) HZS.out ?_
            intro R3 d3 X3 ho hg hob
            simp only [Nat.zero_add, List.nil_append] at ho hob ⊢
            have HO := Lib.hid ho
            have HI2 : Hid (Below vs V X3) := Lib.hid (HI.out.grown hg HZS.out (fun k hk => by have hk : some b0 = some k := hk; injection hk with hk; have := HE.out.2.1; omega))
            have HP2 := Lib.hid (And.intro ((hg.block _ HP.out.2.2 (fun e => HB05.out (by have e : some _ = some b0 := e; injection e with e; exact e.symm))).trans HP.out.1) (And.intro HP.out.2.1 (Nat.lt_of_lt_of_le HP.out.2.2 hg.size)))
            have HNE : Hid (∀ gb, (Value.slice R3 g.expos.length d3).ownBlock = some gb → gb ≠ b5) := Lib.hid fun gb hg2 => by
              rcases hob with h | h
              · have h : (Value.slice R3 g.expos.length d3).ownBlock = some b0 := h
                rw [h] at hg2; injection hg2 with hg2; exact fun e => HB05.out (hg2.trans e)
              · rw [h] at hg2; injection hg2 with hg2; have := HP.out.2.2; omega
            have HZS2 : Hid (vs ≤ X3.heap.size) := Lib.hid (Nat.le_trans HZS.out hg.size)
            clear ho hg hob HI HE HZS HP
            have HI := HI2
            have HZS := HZS2
            clear HI2 HZS2
            have HP := HP2
            clear HP2
            refine hK.out _ _ (HSB.out _ HI.out) (fun hS => ?_)
            clear hK K'
            try simp only [Act.put, List.setIfInBounds_toArray, List.set_cons_zero, List.set_cons_succ]
            refine wpAnyH_ready (rs := [6]) (by kernel_rfl) (by simp) ?_
            refine AllReadyH.cons (o := { dst := some 51, op := .call { callee := .builtin .append, args := #[.tmp 48, .tmp 50], argTypes := #[27, 27] }, type := 27, pos := "law.go:102", after := #[{ on := 3, ground := .data }, { on := 5, ground := .data }, { on := 3, ground := .chain }], guard := none }) rfl (fun K' hK => ?_) (AllReadyH.nil)
            · refine app_step tyE_ rfl (.tmp 48) (.tmp 50) rfl (A := R3) (n := g.expos.length) (c := d3) rfl HO.out (X := some ⟨b5, 0, none⟩) (m := 1) (cx := 1) rfl (src_blk HP.out.1 rfl) (by simp [Value.oneCell']) (by have := HN7.out; omega) HZS.out ?_
              intro R4 d4 X4 ho hg hob
              have HR := Lib.hid (show X4.ownsRow vs 58 3 (.slice R4 (g.expos.length + 1) d4) (g.expos.length + 1) ((g.expos ++ [x]).flatMap ev) by rw [List.flatMap_append]; simpa [ev] using ho)
              have HI2 : Hid (Below vs V X4) := Lib.hid (HI.out.grown hg HZS.out (fun k hk => (rowLt HO.out k hk).1))
              clear ho hg hob HI HO HP HNE
              have HI := HI2
              clear HI2
              have hk := (HI.out.block _ HVB.out.2.2).trans HVB.out.2.1
              have nc : X4.cell? ⟨V3.heap.size + 1 + 1, 6, none⟩ = some (.slice (some ⟨b, off, none⟩) g.expos.length c6) := (blk_cell hk 6).trans rfl
              have nz := blk_free hk 6
              have HKS := Lib.hid (blk_set hk 6 (.slice R4 (g.expos.length + 1) d4))
              have HIS : Hid (∀ b, b < vs → b ≠ V3.heap.size + 1 + 1 → (X4.setCell ⟨V3.heap.size + 1 + 1, 6, none⟩ (.slice R4 (g.expos.length + 1) d4)).heap[b]? = V.heap[b]?) := Lib.hid fun b h1 h2 => (far_set (fun e => h2 e.symm) _).trans (HI.out.block b h1)
              have HIZ : Hid (V.heap.size ≤ (X4.setCell ⟨V3.heap.size + 1 + 1, 6, none⟩ (.slice R4 (g.expos.length + 1) d4)).heap.size ∧ (X4.setCell ⟨V3.heap.size + 1 + 1, 6, none⟩ (.slice R4 (g.expos.length + 1) d4)).os = V.os ∧ (X4.setCell ⟨V3.heap.size + 1 + 1, 6, none⟩ (.slice R4 (g.expos.length + 1) d4)).tape = V.tape ∧ (X4.setCell ⟨V3.heap.size + 1 + 1, 6, none⟩ (.slice R4 (g.expos.length + 1) d4)).output = V.output) := Lib.hid ⟨by simpa using HI.out.size, HI.out.os, HI.out.tape, HI.out.output⟩
              have HRS : Hid ((X4.setCell ⟨V3.heap.size + 1 + 1, 6, none⟩ (.slice R4 (g.expos.length + 1) d4)).ownsRow vs 58 3 (.slice R4 (g.expos.length + 1) d4) (g.expos.length + 1) ((g.expos ++ [x]).flatMap ev)) := Lib.hid (rowSame HR.out fun b hb => far_set (by have := (rowLt HR.out b hb).1; have := HVB.out.2.2; show V3.heap.size + 1 + 1 ≠ b; omega) _)
              have HSS : Hid (SN w.heap.size (V3.heap.size + 1) (some ⟨b, off, none⟩) g.expos.length c6 x (X4.setCell ⟨V3.heap.size + 1 + 1, 6, none⟩ (.slice R4 (g.expos.length + 1) d4))) := Lib.hid (sn_keep (HSB.out _ (Below.refl _ _)) (HIS.out _ (by have := HVB.out.2.2; have := HZ3.out; omega) (by have := HZ3.out; omega)) (HIS.out _ (by have := HVB.out.2.2; omega) (by omega)))
              simp only [List.setIfInBounds_toArray, List.set_cons_zero, List.set_cons_succ] at HKS
              clear HR hk
              refine hK.out _ _ (HSB.out _ HI.out) (fun hS => ?_)
              clear hK K'
              try simp only [Act.put, List.setIfInBounds_toArray, List.set_cons_zero, List.set_cons_succ]
              refine wpAnyH_take (i := 7) (oi := { dst := some 52, op := .fieldAddr 33 (.tmp 10) 6, type := 0, pos := "law.go:102", after := #[{ on := 0, ground := .phase }, { on := 1, ground := .phase }, { on := 2, ground := .phase }, { on := 3, ground := .phase }, { on := 4, ground := .phase }, { on := 5, ground := .phase }, { on := 6, ground := .phase }], guard := none }) (v := ?_) rfl (by kernel_rfl) (by kernel_rfl) (by kernel_rfl) (fun _ _ _ h => h) (Or.inl ⟨by rfl, ?_⟩) hS ?_
              rotate_left
              · (intro w' hS'; obtain ⟨s0, s1, s2, s3⟩ := hS'; go_simp) <;> with_reducible rfl
              try simp only [Act.put, List.setIfInBounds_toArray, List.set_cons_zero, List.set_cons_succ]
              refine wpAnyH_ready (rs := [8]) (by kernel_rfl) (by simp) ?_
              refine AllReadyH.cons (o := { dst := none, op := .store 27 (.tmp 52) (.tmp 51), type := 0, pos := "law.go:102", after := #[{ on := 7, ground := .data }, { on := 6, ground := .data }, { on := 6, ground := .chain }, { on := 0, ground := .phase }, { on := 1, ground := .phase }, { on := 2, ground := .phase }, { on := 3, ground := .phase }, { on := 4, ground := .phase }, { on := 5, ground := .phase }, { on := 6, ground := .phase }], guard := none }) rfl (fun K' hK => ?_) (AllReadyH.nil)
              · go_simp
                refine hK.out _ _ HSS.out (fun hS => ?_)
                clear hK K' nc nz HSS
                generalize X4.setCell ⟨V3.heap.size + 1 + 1, 6, none⟩ (.slice R4 (g.expos.length + 1) d4) = V9 at *
                try simp only [Act.put, List.setIfInBounds_toArray, List.set_cons_zero, List.set_cons_succ]
                refine wpAnyH_done (by kernel_rfl) ?_ _
                obtain ⟨g4, rfl⟩ : ∃ g4, R4 = some ⟨g4, 0, none⟩ := by
                  rcases HRS.out.2 with ⟨_, h0⟩ | ⟨g5, cap, cur, e, _⟩
                  · omega
                  · injection e with e1 _ _
                    exact ⟨g5, e1⟩
                have HB9 : Hid (Below w.heap.size w V9) := Lib.hid (HVB.out.1.trans ⟨HIZ.out.2.1, HIZ.out.2.2.1, HIZ.out.2.2.2, HIZ.out.1, fun b hb => HIS.out b (by have := HVB.out.2.2; have := HZ3.out; omega) (by have := HZ3.out; omega)⟩)
                have HG4 : Hid (vs ≤ g4 ∧ g4 < V9.heap.size) := Lib.hid (rowLt HRS.out g4 rfl)
                have HM9 : Hid (V9.heap[w.heap.size]? = some (.cells #[.slice A0 g.types.length c0, .slice A1 g.imps.length c1, .slice A2 g.funcs.length c2, .slice A3 g.tabs.length c3, .slice A4 g.mems.length c4, .slice A5 g.globs.length c5, .slice (some ⟨b, off, none⟩) g.expos.length c6, .slice A7 g.starts.length c7, .slice A8 g.els.length c8, .slice A9 g.counts.length c9, .slice A10 g.dats.length c10, .slice A11 g.cuss.length c11] 33 (0, 0))) := Lib.hid ((HIS.out _ (by have := HVB.out.2.2; have := HZ3.out; omega) (by have := HZ3.out; omega)).trans HMV.out)
                have HMD : Hid (∀ X, (∀ b, b < w.heap.size → X.heap[b]? = w.heap[b]?) → ∀ (l : List GExpo), X.ownsRow vs 58 3 (.slice (some ⟨g4, 0, none⟩) (g.expos.length + 1) d4) (g.expos.length + 1) (l.flatMap ev) → l.length = g.expos.length + 1 → MdL X (fun _ => True) (fun _ => True) (⟨A0, A1, A2, A3, A4, A5, (some ⟨g4, 0, none⟩), A7, A8, A9, A10, A11, c0, c1, c2, c3, c4, c5, d4, c7, c8, c9, c10, c11⟩ : Pls) (withE g l)) := Lib.hid fun X hX l hr hl => by
                  have h := HL.out.keep (w' := X) (ok' := fun _ => True) (okF' := fun _ => True) (fun b _ hb => ⟨hX b hb, trivial⟩) (fun b _ hb => ⟨hX b hb, trivial⟩)
                  exact ⟨h.l0, h.l1, h.l2, h.l3, h.l4, h.l5, own_expo hr hl.symm (fun _ _ => trivial), h.l7, h.l8, h.l9, h.l10, h.l11⟩
                have HO9 : Hid (Calls Try.prog 10 #[.agg #[.slice A0 g.types.length c0, .slice A1 g.imps.length c1, .slice A2 g.funcs.length c2, .slice A3 g.tabs.length c3, .slice A4 g.mems.length c4, .slice A5 g.globs.length c5, .slice (some ⟨g4, 0, none⟩) (g.expos.length + 1) d4, .slice A7 g.starts.length c7, .slice A8 g.els.length c8, .slice A9 g.counts.length c9, .slice A10 g.dats.length c10, .slice A11 g.cuss.length c11]] V9 (OfIs V9 (withE g (g.expos ++ [x])))) := Lib.hid (by
                  have h := of_any (withE g (g.expos ++ [x])) (⟨A0, A1, A2, A3, A4, A5, (some ⟨g4, 0, none⟩), A7, A8, A9, A10, A11, c0, c1, c2, c3, c4, c5, d4, c7, c8, c9, c10, c11⟩ : Pls) V9 (HMD.out V9 (fun b hb => HB9.out.block b hb) _ HRS.out (by simp)) (withE_sm HS.out.1 (by have := HN7.out; omega) x (HS.out.1.ex x HMEM.out))
                  rw [show (withE g (g.expos ++ [x])).expos.length = g.expos.length + 1 from by simp [withE]] at h
                  exact h)
                have HE9 : Hid (ofE (withE g (g.expos ++ [x])) = 8) := Lib.hid (again_8 HR.out x HMEM.out)
                unfold OfIs at HO9
                rw [HE9.out] at HO9
                have n0 : V9.cell? ⟨V3.heap.size + 1 + 1, 0, none⟩ = some (.slice A0 g.types.length c0) := (blk_cell HKS.out 0).trans rfl
                have n1 : V9.cell? ⟨V3.heap.size + 1 + 1, 1, none⟩ = some (.slice A1 g.imps.length c1) := (blk_cell HKS.out 1).trans rfl
                have n2 : V9.cell? ⟨V3.heap.size + 1 + 1, 2, none⟩ = some (.slice A2 g.funcs.length c2) := (blk_cell HKS.out 2).trans rfl
                have n3 : V9.cell? ⟨V3.heap.size + 1 + 1, 3, none⟩ = some (.slice A3 g.tabs.length c3) := (blk_cell HKS.out 3).trans rfl
                have n4 : V9.cell? ⟨V3.heap.size + 1 + 1, 4, none⟩ = some (.slice A4 g.mems.length c4) := (blk_cell HKS.out 4).trans rfl
                have n5 : V9.cell? ⟨V3.heap.size + 1 + 1, 5, none⟩ = some (.slice A5 g.globs.length c5) := (blk_cell HKS.out 5).trans rfl
                have n6 : V9.cell? ⟨V3.heap.size + 1 + 1, 6, none⟩ = some (.slice (some ⟨g4, 0, none⟩) (g.expos.length + 1) d4) := (blk_cell HKS.out 6).trans rfl
                have n7 : V9.cell? ⟨V3.heap.size + 1 + 1, 7, none⟩ = some (.slice A7 g.starts.length c7) := (blk_cell HKS.out 7).trans rfl
                have n8 : V9.cell? ⟨V3.heap.size + 1 + 1, 8, none⟩ = some (.slice A8 g.els.length c8) := (blk_cell HKS.out 8).trans rfl
                have n9 : V9.cell? ⟨V3.heap.size + 1 + 1, 9, none⟩ = some (.slice A9 g.counts.length c9) := (blk_cell HKS.out 9).trans rfl
                have n10 : V9.cell? ⟨V3.heap.size + 1 + 1, 10, none⟩ = some (.slice A10 g.dats.length c10) := (blk_cell HKS.out 10).trans rfl
                have n11 : V9.cell? ⟨V3.heap.size + 1 + 1, 11, none⟩ = some (.slice A11 g.cuss.length c11) := (blk_cell HKS.out 11).trans rfl
                clear HE9 hS HIS HIZ
                go_wp2_with fail
                refine HO9.out.mono ?_
                rintro en V10 ⟨q9, rfl, _, hb⟩
                simp only [Plc.vals]
                generalize ofC (withE g (g.expos ++ [x])) = k9 at *
                have HBL : Hid (Below V9.heap.size V9 (V10.alloc (.cells #[.slice q9.A0 k9.types.length q9.d0, .slice q9.A1 k9.funcs.length q9.d1, .slice q9.A2 k9.globs.length q9.d2, .slice q9.A3 k9.tabs.length q9.d3, .slice q9.A4 k9.mems.length q9.d4, .int .i64 k9.hosts, .int .i64 k9.vars, .int .i64 k9.els, .int .i64 k9.dats, .bool k9.counted] 38))) := Lib.hid (hb.trans (((Below.refl _ _).alloc (Nat.le_refl _) _).mono hb.size))
                have HWL := Lib.hid (HB9.out.trans (HBL.out.mono HB9.out.size))
                have m6 : (V10.alloc (.cells #[.slice q9.A0 k9.types.length q9.d0, .slice q9.A1 k9.funcs.length q9.d1, .slice q9.A2 k9.globs.length q9.d2, .slice q9.A3 k9.tabs.length q9.d3, .slice q9.A4 k9.mems.length q9.d4, .int .i64 k9.hosts, .int .i64 k9.vars, .int .i64 k9.els, .int .i64 k9.dats, .bool k9.counted] 38)).cell? ⟨w.heap.size, 6, none⟩ = some (.slice (some ⟨b, off, none⟩) g.expos.length c6) := (blk_cell ((HBL.out.block _ (by have := HG4.out; have := HVB.out.2.2; have := HZ3.out; omega)).trans HM9.out) 6).trans rfl
                have HKL := Lib.hid ((HBL.out.block _ (by have := HG4.out; have := HVB.out.2.2; omega)).trans HKS.out)
                have HRL : Hid ((V10.alloc (.cells #[.slice q9.A0 k9.types.length q9.d0, .slice q9.A1 k9.funcs.length q9.d1, .slice q9.A2 k9.globs.length q9.d2, .slice q9.A3 k9.tabs.length q9.d3, .slice q9.A4 k9.mems.length q9.d4, .int .i64 k9.hosts, .int .i64 k9.vars, .int .i64 k9.els, .int .i64 k9.dats, .bool k9.counted] 38)).ownsRow vs 58 3 (.slice (some ⟨g4, 0, none⟩) (g.expos.length + 1) d4) (g.expos.length + 1) ((g.expos ++ [x]).flatMap ev)) := Lib.hid (rowSame HRS.out fun b hb => HBL.out.block b (rowLt HRS.out b hb).2)
                clear hb HO9 n0 n1 n2 n3 n4 n5 n6 n7 n8 n9 n10 n11 HB9 HM9 HKS HRS HBL
                go_wp2_with fail
                generalize (V10.alloc (.cells #[.slice q9.A0 k9.types.length q9.d0, .slice q9.A1 k9.funcs.length q9.d1, .slice q9.A2 k9.globs.length q9.d2, .slice q9.A3 k9.tabs.length q9.d3, .slice q9.A4 k9.mems.length q9.d4, .int .i64 k9.hosts, .int .i64 k9.vars, .int .i64 k9.els, .int .i64 k9.dats, .bool k9.counted] 38)) = VL at *
                have hn7 : (g.expos.length : Int) ≤ 70 := by have := HN7.out; omega
                go_loopw [13] (fun i wr => ∃ j : Nat, i = .int .i64 (j : Int) ∧ j ≤ g.expos.length ∧ wr = VL ∧ Hid (∀ y ∈ g.expos.take j, y.nm ≠ name)) (fun i _ => g.expos.length - (intOf i).toNat)
                case atStart => exact ⟨0, rfl, Nat.zero_le _, rfl, Lib.hid (by simp)⟩
                case round =>
                  obtain ⟨j, rfl, hj, hwr, HJ⟩ := hrel
                  subst wr
                  by_cases hlt : j < g.expos.length
                  · have hlti : (j : Int) < (g.expos.length : Int) := by omega
                    obtain ⟨b', off', hA, h1⟩ := sm_expo HL.out.l6 j hlt
                    obtain ⟨y0, _, _⟩ := h1 VL HWL.out
                    injection hA with hA
                    injection hA with e1 e2 _
                    subst e1 e2
                    have HNX : Hid (g.expos[j].nm ≠ name → ∀ y ∈ g.expos.take (j + 1), y.nm ≠ name) := Lib.hid fun h => all_next hlt HJ.out h
                    clear h1
                    generalize g.expos[j].nm = yn at *
                    by_cases hy : yn = name
                    · subst hy
                      clear HNX
                      go_wp2
                      go_ret
                      exact ⟨rfl, HWL.out⟩
                    · have HN := Lib.hid (HNX.out hy)
                      have hyb : (yn.toList == name.toList) = false := str_ne hy
                      clear HNX
                      go_wp2
                      go_roundw
                      case rel => exact ⟨j + 1, by go_num, by omega, by trivial, HN⟩
                      case measure => simp [intOf]; omega
                  · have hlti : ¬ (j : Int) < (g.expos.length : Int) := by omega
                    have HNO : Hid (∀ y ∈ g.expos, y.nm ≠ name) := Lib.hid (all_whole hlt HJ.out)
                    clear HJ
                    obtain ⟨hr2, hc2, hz2⟩ := own_name HRL.out name
                    have HR2 := Lib.hid hr2
                    have n6 : VL.cell? ⟨V3.heap.size + 1 + 1, 6, none⟩ = some (.slice (some ⟨g4, 0, none⟩) (g.expos.length + 1) d4) := (blk_cell HKL.out 6).trans rfl
                    have HFM : Hid (∀ b, b ≠ g4 → (VL.setCell ⟨g4, g.expos.length * 3, none⟩ (.string name)).heap[b]? = VL.heap[b]?) := Lib.hid fun b hb => far_set (fun e => hb e.symm) _
                    have HWM : Hid (Below w.heap.size w (VL.setCell ⟨g4, g.expos.length * 3, none⟩ (.string name))) := Lib.hid (HWL.out.trans ⟨rfl, rfl, rfl, by simp, fun b hb => HFM.out b (by have := HG4.out; have := HVB.out.2.2; have := HZ3.out; omega)⟩)
                    have HOM : Hid (Calls Try.prog 10 #[.agg #[.slice A0 g.types.length c0, .slice A1 g.imps.length c1, .slice A2 g.funcs.length c2, .slice A3 g.tabs.length c3, .slice A4 g.mems.length c4, .slice A5 g.globs.length c5, .slice (some ⟨g4, 0, none⟩) (g.expos.length + 1) d4, .slice A7 g.starts.length c7, .slice A8 g.els.length c8, .slice A9 g.counts.length c9, .slice A10 g.dats.length c10, .slice A11 g.cuss.length c11]] (VL.setCell ⟨g4, g.expos.length * 3, none⟩ (.string name)) (OfIs (VL.setCell ⟨g4, g.expos.length * 3, none⟩ (.string name)) (withE g (g.expos ++ [{ x with nm := name }])))) := Lib.hid (by
                      have h := of_any (withE g (g.expos ++ [{ x with nm := name }])) (⟨A0, A1, A2, A3, A4, A5, (some ⟨g4, 0, none⟩), A7, A8, A9, A10, A11, c0, c1, c2, c3, c4, c5, d4, c7, c8, c9, c10, c11⟩ : Pls) (VL.setCell ⟨g4, g.expos.length * 3, none⟩ (.string name)) (HMD.out _ (fun b hb => HWM.out.block b hb) _ HR2.out (by simp)) (withE_sm HS.out.1 (by have := HN7.out; omega) _ HNM.out)
                      rw [show (withE g (g.expos ++ [{ x with nm := name }])).expos.length = g.expos.length + 1 from by simp [withE]] at h
                      exact h)
                    unfold OfIs at HOM
                    rw [again_0 HR.out x HMEM.out name HNO.out] at HOM
                    have HKM := Lib.hid ((HFM.out (V3.heap.size + 1 + 1) (by have := HG4.out; have := HVB.out.2.2; omega)).trans HKL.out)
                    have k0 : (VL.setCell ⟨g4, g.expos.length * 3, none⟩ (.string name)).cell? ⟨V3.heap.size + 1 + 1, 0, none⟩ = some (.slice A0 g.types.length c0) := (blk_cell HKM.out 0).trans rfl
                    have k1 : (VL.setCell ⟨g4, g.expos.length * 3, none⟩ (.string name)).cell? ⟨V3.heap.size + 1 + 1, 1, none⟩ = some (.slice A1 g.imps.length c1) := (blk_cell HKM.out 1).trans rfl
                    have k2 : (VL.setCell ⟨g4, g.expos.length * 3, none⟩ (.string name)).cell? ⟨V3.heap.size + 1 + 1, 2, none⟩ = some (.slice A2 g.funcs.length c2) := (blk_cell HKM.out 2).trans rfl
                    have k3 : (VL.setCell ⟨g4, g.expos.length * 3, none⟩ (.string name)).cell? ⟨V3.heap.size + 1 + 1, 3, none⟩ = some (.slice A3 g.tabs.length c3) := (blk_cell HKM.out 3).trans rfl
                    have k4 : (VL.setCell ⟨g4, g.expos.length * 3, none⟩ (.string name)).cell? ⟨V3.heap.size + 1 + 1, 4, none⟩ = some (.slice A4 g.mems.length c4) := (blk_cell HKM.out 4).trans rfl
                    have k5 : (VL.setCell ⟨g4, g.expos.length * 3, none⟩ (.string name)).cell? ⟨V3.heap.size + 1 + 1, 5, none⟩ = some (.slice A5 g.globs.length c5) := (blk_cell HKM.out 5).trans rfl
                    have k6 : (VL.setCell ⟨g4, g.expos.length * 3, none⟩ (.string name)).cell? ⟨V3.heap.size + 1 + 1, 6, none⟩ = some (.slice (some ⟨g4, 0, none⟩) (g.expos.length + 1) d4) := (blk_cell HKM.out 6).trans rfl
                    have k7 : (VL.setCell ⟨g4, g.expos.length * 3, none⟩ (.string name)).cell? ⟨V3.heap.size + 1 + 1, 7, none⟩ = some (.slice A7 g.starts.length c7) := (blk_cell HKM.out 7).trans rfl
                    have k8 : (VL.setCell ⟨g4, g.expos.length * 3, none⟩ (.string name)).cell? ⟨V3.heap.size + 1 + 1, 8, none⟩ = some (.slice A8 g.els.length c8) := (blk_cell HKM.out 8).trans rfl
                    have k9 : (VL.setCell ⟨g4, g.expos.length * 3, none⟩ (.string name)).cell? ⟨V3.heap.size + 1 + 1, 9, none⟩ = some (.slice A9 g.counts.length c9) := (blk_cell HKM.out 9).trans rfl
                    have k10 : (VL.setCell ⟨g4, g.expos.length * 3, none⟩ (.string name)).cell? ⟨V3.heap.size + 1 + 1, 10, none⟩ = some (.slice A10 g.dats.length c10) := (blk_cell HKM.out 10).trans rfl
                    have k11 : (VL.setCell ⟨g4, g.expos.length * 3, none⟩ (.string name)).cell? ⟨V3.heap.size + 1 + 1, 11, none⟩ = some (.slice A11 g.cuss.length c11) := (blk_cell HKM.out 11).trans rfl
                    clear hr2 HRL HMD HKL
                    go_wp2_with fail
                    refine HOM.out.mono ?_
                    rintro en V12 ⟨q12, rfl, _, hb⟩
                    simp only [Plc.vals]
                    generalize ofC (withE g (g.expos ++ [{ x with nm := name }])) = k12 at *
                    have HWZ := Lib.hid (HWM.out.trans (hb.mono HWM.out.size))
                    clear hb HOM k0 k1 k2 k3 k4 k5 k6 k7 k8 k9 k10 k11
                    go_wp2
                    go_ret
                    exact ⟨rfl, HWZ.out.trans (((Below.refl _ _).alloc (Nat.le_refl _) _).mono HWZ.out.size)⟩
      · go_simp
        have HAL : Hid (Below V.heap.size V (V.alloc (.cells #[.string x.nm, .int .i64 x.kind, .int .i64 x.idx] 58))) := Lib.hid ((Below.refl _ _).alloc (Nat.le_refl _) _)
        have HZ : Hid (V.heap.size < (V.alloc (.cells #[.string x.nm, .int .i64 x.kind, .int .i64 x.idx] 58)).heap.size) := Lib.hid (by simp)
        have HI2 := Lib.hid (HI.out.trans (HAL.out.mono HZS.out))
        have HZS2 : Hid (vs ≤ (V.alloc (.cells #[.string x.nm, .int .i64 x.kind, .int .i64 x.idx] 58)).heap.size) := Lib.hid (Nat.le_trans HZS.out (Nat.le_of_lt HZ.out))
        have HPn : Hid ((V.alloc (.cells #[.string x.nm, .int .i64 x.kind, .int .i64 x.idx] 58)).heap[V.heap.size]? = some (.cells #[.string x.nm, .int .i64 x.kind, .int .i64 x.idx] 58 (0, 0)) ∧ vs ≤ V.heap.size ∧ V.heap.size < (V.alloc (.cells #[.string x.nm, .int .i64 x.kind, .int .i64 x.idx] 58)).heap.size) := Lib.hid ⟨heap_alloc_new V _, HZS.out, HZ.out⟩
        clear HI HAL HZ HZS
        generalize (V.alloc (.cells #[.string x.nm, .int .i64 x.kind, .int .i64 x.idx] 58)) = X1 at *
        generalize V.heap.size = b5 at *
        have HI := HI2
        have HZS := HZS2
        have HP := HPn
        clear HI2 HZS2 HPn
        refine hK.out _ _ (HSB.out _ HI.out) (fun hS => ?_)
        clear hK K'
        try simp only [Act.put, List.setIfInBounds_toArray, List.set_cons_zero, List.set_cons_succ]
        refine wpAnyH_ready (rs := [0]) (by kernel_rfl) (by simp) ?_
        refine AllReadyH.cons (o := { dst := some 45, op := .buildSlice 27 0 #[], type := 27, pos := "law.go:102", after := #[], guard := none }) rfl (fun K' hK => ?_) (AllReadyH.nil)
        · go_simp
          have HAL : Hid (Below X1.heap.size X1 (X1.alloc (.cells #[] 58))) := Lib.hid ((Below.refl _ _).alloc (Nat.le_refl _) _)
          have HZ : Hid (X1.heap.size < (X1.alloc (.cells #[] 58)).heap.size) := Lib.hid (by simp)
          have HI2 := Lib.hid (HI.out.trans (HAL.out.mono HZS.out))
          have HZS2 : Hid (vs ≤ (X1.alloc (.cells #[] 58)).heap.size) := Lib.hid (Nat.le_trans HZS.out (Nat.le_of_lt HZ.out))
          have HP2 := Lib.hid (And.intro ((HAL.out.block _ HP.out.2.2).trans HP.out.1) (And.intro HP.out.2.1 (Nat.lt_trans HP.out.2.2 HZ.out)))
          have HB05 : Hid (X1.heap.size ≠ b5) := Lib.hid (by have := HP.out.2.2; omega)
          have HEn : Hid ((X1.alloc (.cells #[] 58)).heap[X1.heap.size]? = some (.cells #[] 58 (0, 0)) ∧ vs ≤ X1.heap.size ∧ X1.heap.size < (X1.alloc (.cells #[] 58)).heap.size) := Lib.hid ⟨heap_alloc_new X1 _, HZS.out, HZ.out⟩
          clear HI HAL HZ HZS HP
          generalize (X1.alloc (.cells #[] 58)) = X2 at *
          generalize X1.heap.size = b0 at *
          have HI := HI2
          have HZS := HZS2
          have HP := HP2
          have HE := HEn
          clear HI2 HZS2 HEn HP2
          refine hK.out _ _ (HSB.out _ HI.out) (fun hS => ?_)
          clear hK K'
          try simp only [Act.put, List.setIfInBounds_toArray, List.set_cons_zero, List.set_cons_succ]
          refine wpAnyH_ready (rs := [3]) (by kernel_rfl) (by simp) ?_
          refine AllReadyH.cons (o := { dst := some 48, op := .call { callee := .builtin .append, args := #[.tmp 45, .tmp 47], argTypes := #[27, 27] }, type := 27, pos := "law.go:102", after := #[{ on := 0, ground := .data }, { on := 2, ground := .data }], guard := none }) rfl (fun K' hK => ?_) (AllReadyH.nil)
          · refine app_step tyE_ rfl (.tmp 45) (.tmp 47) rfl (A := some ⟨b0, 0, none⟩) (n := 0) (c := 0) rfl (own_empty X2 vs _ _ b0 HE.out.2.1 HE.out.1) (X := (some ⟨b, off, none⟩)) (m := g.expos.length) (cx := c6) rfl (src_expo (HLE.out X2 HI.out)) (ones_e _) (by have := HN7.out; omega) HZS.out ?_
            intro R3 d3 X3 ho hg hob
            simp only [Nat.zero_add, List.nil_append] at ho hob ⊢
            have HO := Lib.hid ho
            have HI2 : Hid (Below vs V X3) := Lib.hid (HI.out.grown hg HZS.out (fun k hk => by have hk : some b0 = some k := hk; injection hk with hk; have := HE.out.2.1; omega))
            have HP2 := Lib.hid (And.intro ((hg.block _ HP.out.2.2 (fun e => HB05.out (by have e : some _ = some b0 := e; injection e with e; exact e.symm))).trans HP.out.1) (And.intro HP.out.2.1 (Nat.lt_of_lt_of_le HP.out.2.2 hg.size)))
            have HNE : Hid (∀ gb, (Value.slice R3 g.expos.length d3).ownBlock = some gb → gb ≠ b5) := Lib.hid fun gb hg2 => by
              rcases hob with h | h
              · have h : (Value.slice R3 g.expos.length d3).ownBlock = some b0 := h
                rw [h] at hg2; injection hg2 with hg2; exact fun e => HB05.out (hg2.trans e)
              · rw [h] at hg2; injection hg2 with hg2; have := HP.out.2.2; omega
            have HZS2 : Hid (vs ≤ X3.heap.size) := Lib.hid (Nat.le_trans HZS.out hg.size)
            clear ho hg hob HI HE HZS HP
            have HI := HI2
            have HZS := HZS2
            clear HI2 HZS2
            have HP := HP2
            clear HP2
            refine hK.out _ _ (HSB.out _ HI.out) (fun hS => ?_)
            clear hK K'
            try simp only [Act.put, List.setIfInBounds_toArray, List.set_cons_zero, List.set_cons_succ]
            refine wpAnyH_ready (rs := [6]) (by kernel_rfl) (by simp) ?_
            refine AllReadyH.cons (o := { dst := some 51, op := .call { callee := .builtin .append, args := #[.tmp 48, .tmp 50], argTypes := #[27, 27] }, type := 27, pos := "law.go:102", after := #[{ on := 3, ground := .data }, { on := 5, ground := .data }, { on := 3, ground := .chain }], guard := none }) rfl (fun K' hK => ?_) (AllReadyH.nil)
            · refine app_step tyE_ rfl (.tmp 48) (.tmp 50) rfl (A := R3) (n := g.expos.length) (c := d3) rfl HO.out (X := some ⟨b5, 0, none⟩) (m := 1) (cx := 1) rfl (src_blk HP.out.1 rfl) (by simp [Value.oneCell']) (by have := HN7.out; omega) HZS.out ?_
              intro R4 d4 X4 ho hg hob
              have HR := Lib.hid (show X4.ownsRow vs 58 3 (.slice R4 (g.expos.length + 1) d4) (g.expos.length + 1) ((g.expos ++ [x]).flatMap ev) by rw [List.flatMap_append]; simpa [ev] using ho)
              have HI2 : Hid (Below vs V X4) := Lib.hid (HI.out.grown hg HZS.out (fun k hk => (rowLt HO.out k hk).1))
              clear ho hg hob HI HO HP HNE
              have HI := HI2
              clear HI2
              have hk := (HI.out.block _ HVB.out.2.2).trans HVB.out.2.1
              have nc : X4.cell? ⟨V3.heap.size + 1 + 1, 6, none⟩ = some (.slice (some ⟨b, off, none⟩) g.expos.length c6) := (blk_cell hk 6).trans rfl
              have nz := blk_free hk 6
              have HKS := Lib.hid (blk_set hk 6 (.slice R4 (g.expos.length + 1) d4))
              have HIS : Hid (∀ b, b < vs → b ≠ V3.heap.size + 1 + 1 → (X4.setCell ⟨V3.heap.size + 1 + 1, 6, none⟩ (.slice R4 (g.expos.length + 1) d4)).heap[b]? = V.heap[b]?) := Lib.hid fun b h1 h2 => (far_set (fun e => h2 e.symm) _).trans (HI.out.block b h1)
              have HIZ : Hid (V.heap.size ≤ (X4.setCell ⟨V3.heap.size + 1 + 1, 6, none⟩ (.slice R4 (g.expos.length + 1) d4)).heap.size ∧ (X4.setCell ⟨V3.heap.size + 1 + 1, 6, none⟩ (.slice R4 (g.expos.length + 1) d4)).os = V.os ∧ (X4.setCell ⟨V3.heap.size + 1 + 1, 6, none⟩ (.slice R4 (g.expos.length + 1) d4)).tape = V.tape ∧ (X4.setCell ⟨V3.heap.size + 1 + 1, 6, none⟩ (.slice R4 (g.expos.length + 1) d4)).output = V.output) := Lib.hid ⟨by simpa using HI.out.size, HI.out.os, HI.out.tape, HI.out.output⟩
              have HRS : Hid ((X4.setCell ⟨V3.heap.size + 1 + 1, 6, none⟩ (.slice R4 (g.expos.length + 1) d4)).ownsRow vs 58 3 (.slice R4 (g.expos.length + 1) d4) (g.expos.length + 1) ((g.expos ++ [x]).flatMap ev)) := Lib.hid (rowSame HR.out fun b hb => far_set (by have := (rowLt HR.out b hb).1; have := HVB.out.2.2; show V3.heap.size + 1 + 1 ≠ b; omega) _)
              have HSS : Hid (SN w.heap.size (V3.heap.size + 1) (some ⟨b, off, none⟩) g.expos.length c6 x (X4.setCell ⟨V3.heap.size + 1 + 1, 6, none⟩ (.slice R4 (g.expos.length + 1) d4))) := Lib.hid (sn_keep (HSB.out _ (Below.refl _ _)) (HIS.out _ (by have := HVB.out.2.2; have := HZ3.out; omega) (by have := HZ3.out; omega)) (HIS.out _ (by have := HVB.out.2.2; omega) (by omega)))
              simp only [List.setIfInBounds_toArray, List.set_cons_zero, List.set_cons_succ] at HKS
              clear HR hk
              refine hK.out _ _ (HSB.out _ HI.out) (fun hS => ?_)
              clear hK K'
              try simp only [Act.put, List.setIfInBounds_toArray, List.set_cons_zero, List.set_cons_succ]
              refine wpAnyH_take (i := 7) (oi := { dst := some 52, op := .fieldAddr 33 (.tmp 10) 6, type := 0, pos := "law.go:102", after := #[{ on := 0, ground := .phase }, { on := 1, ground := .phase }, { on := 2, ground := .phase }, { on := 3, ground := .phase }, { on := 4, ground := .phase }, { on := 5, ground := .phase }, { on := 6, ground := .phase }], guard := none }) (v := ?_) rfl (by kernel_rfl) (by kernel_rfl) (by kernel_rfl) (fun _ _ _ h => h) (Or.inl ⟨by rfl, ?_⟩) hS ?_
              rotate_left
              · (intro w' hS'; obtain ⟨s0, s1, s2, s3⟩ := hS'; go_simp) <;> with_reducible rfl
              try simp only [Act.put, List.setIfInBounds_toArray, List.set_cons_zero, List.set_cons_succ]
              refine wpAnyH_ready (rs := [8]) (by kernel_rfl) (by simp) ?_
              refine AllReadyH.cons (o := { dst := none, op := .store 27 (.tmp 52) (.tmp 51), type := 0, pos := "law.go:102", after := #[{ on := 7, ground := .data }, { on := 6, ground := .data }, { on := 6, ground := .chain }, { on := 0, ground := .phase }, { on := 1, ground := .phase }, { on := 2, ground := .phase }, { on := 3, ground := .phase }, { on := 4, ground := .phase }, { on := 5, ground := .phase }, { on := 6, ground := .phase }], guard := none }) rfl (fun K' hK => ?_) (AllReadyH.nil)
              · go_simp
                refine hK.out _ _ HSS.out (fun hS => ?_)
                clear hK K' nc nz HSS
                generalize X4.setCell ⟨V3.heap.size + 1 + 1, 6, none⟩ (.slice R4 (g.expos.length + 1) d4) = V9 at *
                try simp only [Act.put, List.setIfInBounds_toArray, List.set_cons_zero, List.set_cons_succ]
                refine wpAnyH_done (by kernel_rfl) ?_ _
                obtain ⟨g4, rfl⟩ : ∃ g4, R4 = some ⟨g4, 0, none⟩ := by
                  rcases HRS.out.2 with ⟨_, h0⟩ | ⟨g5, cap, cur, e, _⟩
                  · omega
                  · injection e with e1 _ _
                    exact ⟨g5, e1⟩
                have HB9 : Hid (Below w.heap.size w V9) := Lib.hid (HVB.out.1.trans ⟨HIZ.out.2.1, HIZ.out.2.2.1, HIZ.out.2.2.2, HIZ.out.1, fun b hb => HIS.out b (by have := HVB.out.2.2; have := HZ3.out; omega) (by have := HZ3.out; omega)⟩)
                have HG4 : Hid (vs ≤ g4 ∧ g4 < V9.heap.size) := Lib.hid (rowLt HRS.out g4 rfl)
                have HM9 : Hid (V9.heap[w.heap.size]? = some (.cells #[.slice A0 g.types.length c0, .slice A1 g.imps.length c1, .slice A2 g.funcs.length c2, .slice A3 g.tabs.length c3, .slice A4 g.mems.length c4, .slice A5 g.globs.length c5, .slice (some ⟨b, off, none⟩) g.expos.length c6, .slice A7 g.starts.length c7, .slice A8 g.els.length c8, .slice A9 g.counts.length c9, .slice A10 g.dats.length c10, .slice A11 g.cuss.length c11] 33 (0, 0))) := Lib.hid ((HIS.out _ (by have := HVB.out.2.2; have := HZ3.out; omega) (by have := HZ3.out; omega)).trans HMV.out)
                have HMD : Hid (∀ X, (∀ b, b < w.heap.size → X.heap[b]? = w.heap[b]?) → ∀ (l : List GExpo), X.ownsRow vs 58 3 (.slice (some ⟨g4, 0, none⟩) (g.expos.length + 1) d4) (g.expos.length + 1) (l.flatMap ev) → l.length = g.expos.length + 1 → MdL X (fun _ => True) (fun _ => True) (⟨A0, A1, A2, A3, A4, A5, (some ⟨g4, 0, none⟩), A7, A8, A9, A10, A11, c0, c1, c2, c3, c4, c5, d4, c7, c8, c9, c10, c11⟩ : Pls) (withE g l)) := Lib.hid fun X hX l hr hl => by
                  have h := HL.out.keep (w' := X) (ok' := fun _ => True) (okF' := fun _ => True) (fun b _ hb => ⟨hX b hb, trivial⟩) (fun b _ hb => ⟨hX b hb, trivial⟩)
                  exact ⟨h.l0, h.l1, h.l2, h.l3, h.l4, h.l5, own_expo hr hl.symm (fun _ _ => trivial), h.l7, h.l8, h.l9, h.l10, h.l11⟩
                have HO9 : Hid (Calls Try.prog 10 #[.agg #[.slice A0 g.types.length c0, .slice A1 g.imps.length c1, .slice A2 g.funcs.length c2, .slice A3 g.tabs.length c3, .slice A4 g.mems.length c4, .slice A5 g.globs.length c5, .slice (some ⟨g4, 0, none⟩) (g.expos.length + 1) d4, .slice A7 g.starts.length c7, .slice A8 g.els.length c8, .slice A9 g.counts.length c9, .slice A10 g.dats.length c10, .slice A11 g.cuss.length c11]] V9 (OfIs V9 (withE g (g.expos ++ [x])))) := Lib.hid (by
                  have h := of_any (withE g (g.expos ++ [x])) (⟨A0, A1, A2, A3, A4, A5, (some ⟨g4, 0, none⟩), A7, A8, A9, A10, A11, c0, c1, c2, c3, c4, c5, d4, c7, c8, c9, c10, c11⟩ : Pls) V9 (HMD.out V9 (fun b hb => HB9.out.block b hb) _ HRS.out (by simp)) (withE_sm HS.out.1 (by have := HN7.out; omega) x (HS.out.1.ex x HMEM.out))
                  rw [show (withE g (g.expos ++ [x])).expos.length = g.expos.length + 1 from by simp [withE]] at h
                  exact h)
                have HE9 : Hid (ofE (withE g (g.expos ++ [x])) = 8) := Lib.hid (again_8 HR.out x HMEM.out)
                unfold OfIs at HO9
                rw [HE9.out] at HO9
                have n0 : V9.cell? ⟨V3.heap.size + 1 + 1, 0, none⟩ = some (.slice A0 g.types.length c0) := (blk_cell HKS.out 0).trans rfl
                have n1 : V9.cell? ⟨V3.heap.size + 1 + 1, 1, none⟩ = some (.slice A1 g.imps.length c1) := (blk_cell HKS.out 1).trans rfl
                have n2 : V9.cell? ⟨V3.heap.size + 1 + 1, 2, none⟩ = some (.slice A2 g.funcs.length c2) := (blk_cell HKS.out 2).trans rfl
                have n3 : V9.cell? ⟨V3.heap.size + 1 + 1, 3, none⟩ = some (.slice A3 g.tabs.length c3) := (blk_cell HKS.out 3).trans rfl
                have n4 : V9.cell? ⟨V3.heap.size + 1 + 1, 4, none⟩ = some (.slice A4 g.mems.length c4) := (blk_cell HKS.out 4).trans rfl
                have n5 : V9.cell? ⟨V3.heap.size + 1 + 1, 5, none⟩ = some (.slice A5 g.globs.length c5) := (blk_cell HKS.out 5).trans rfl
                have n6 : V9.cell? ⟨V3.heap.size + 1 + 1, 6, none⟩ = some (.slice (some ⟨g4, 0, none⟩) (g.expos.length + 1) d4) := (blk_cell HKS.out 6).trans rfl
                have n7 : V9.cell? ⟨V3.heap.size + 1 + 1, 7, none⟩ = some (.slice A7 g.starts.length c7) := (blk_cell HKS.out 7).trans rfl
                have n8 : V9.cell? ⟨V3.heap.size + 1 + 1, 8, none⟩ = some (.slice A8 g.els.length c8) := (blk_cell HKS.out 8).trans rfl
                have n9 : V9.cell? ⟨V3.heap.size + 1 + 1, 9, none⟩ = some (.slice A9 g.counts.length c9) := (blk_cell HKS.out 9).trans rfl
                have n10 : V9.cell? ⟨V3.heap.size + 1 + 1, 10, none⟩ = some (.slice A10 g.dats.length c10) := (blk_cell HKS.out 10).trans rfl
                have n11 : V9.cell? ⟨V3.heap.size + 1 + 1, 11, none⟩ = some (.slice A11 g.cuss.length c11) := (blk_cell HKS.out 11).trans rfl
                clear HE9 hS HIS HIZ
                go_wp2_with fail
                refine HO9.out.mono ?_
                rintro en V10 ⟨q9, rfl, _, hb⟩
                simp only [Plc.vals]
                generalize ofC (withE g (g.expos ++ [x])) = k9 at *
                have HBL : Hid (Below V9.heap.size V9 (V10.alloc (.cells #[.slice q9.A0 k9.types.length q9.d0, .slice q9.A1 k9.funcs.length q9.d1, .slice q9.A2 k9.globs.length q9.d2, .slice q9.A3 k9.tabs.length q9.d3, .slice q9.A4 k9.mems.length q9.d4, .int .i64 k9.hosts, .int .i64 k9.vars, .int .i64 k9.els, .int .i64 k9.dats, .bool k9.counted] 38))) := Lib.hid (hb.trans (((Below.refl _ _).alloc (Nat.le_refl _) _).mono hb.size))
                have HWL := Lib.hid (HB9.out.trans (HBL.out.mono HB9.out.size))
                have m6 : (V10.alloc (.cells #[.slice q9.A0 k9.types.length q9.d0, .slice q9.A1 k9.funcs.length q9.d1, .slice q9.A2 k9.globs.length q9.d2, .slice q9.A3 k9.tabs.length q9.d3, .slice q9.A4 k9.mems.length q9.d4, .int .i64 k9.hosts, .int .i64 k9.vars, .int .i64 k9.els, .int .i64 k9.dats, .bool k9.counted] 38)).cell? ⟨w.heap.size, 6, none⟩ = some (.slice (some ⟨b, off, none⟩) g.expos.length c6) := (blk_cell ((HBL.out.block _ (by have := HG4.out; have := HVB.out.2.2; have := HZ3.out; omega)).trans HM9.out) 6).trans rfl
                have HKL := Lib.hid ((HBL.out.block _ (by have := HG4.out; have := HVB.out.2.2; omega)).trans HKS.out)
                have HRL : Hid ((V10.alloc (.cells #[.slice q9.A0 k9.types.length q9.d0, .slice q9.A1 k9.funcs.length q9.d1, .slice q9.A2 k9.globs.length q9.d2, .slice q9.A3 k9.tabs.length q9.d3, .slice q9.A4 k9.mems.length q9.d4, .int .i64 k9.hosts, .int .i64 k9.vars, .int .i64 k9.els, .int .i64 k9.dats, .bool k9.counted] 38)).ownsRow vs 58 3 (.slice (some ⟨g4, 0, none⟩) (g.expos.length + 1) d4) (g.expos.length + 1) ((g.expos ++ [x]).flatMap ev)) := Lib.hid (rowSame HRS.out fun b hb => HBL.out.block b (rowLt HRS.out b hb).2)
                clear hb HO9 n0 n1 n2 n3 n4 n5 n6 n7 n8 n9 n10 n11 HB9 HM9 HKS HRS HBL
                go_wp2_with fail
                generalize (V10.alloc (.cells #[.slice q9.A0 k9.types.length q9.d0, .slice q9.A1 k9.funcs.length q9.d1, .slice q9.A2 k9.globs.length q9.d2, .slice q9.A3 k9.tabs.length q9.d3, .slice q9.A4 k9.mems.length q9.d4, .int .i64 k9.hosts, .int .i64 k9.vars, .int .i64 k9.els, .int .i64 k9.dats, .bool k9.counted] 38)) = VL at *
                have hn7 : (g.expos.length : Int) ≤ 70 := by have := HN7.out; omega
                go_loopw [13] (fun i wr => ∃ j : Nat, i = .int .i64 (j : Int) ∧ j ≤ g.expos.length ∧ wr = VL ∧ Hid (∀ y ∈ g.expos.take j, y.nm ≠ name)) (fun i _ => g.expos.length - (intOf i).toNat)
                case atStart => exact ⟨0, rfl, Nat.zero_le _, rfl, Lib.hid (by simp)⟩
                case round =>
                  obtain ⟨j, rfl, hj, hwr, HJ⟩ := hrel
                  subst wr
                  by_cases hlt : j < g.expos.length
                  · have hlti : (j : Int) < (g.expos.length : Int) := by omega
                    obtain ⟨b', off', hA, h1⟩ := sm_expo HL.out.l6 j hlt
                    obtain ⟨y0, _, _⟩ := h1 VL HWL.out
                    injection hA with hA
                    injection hA with e1 e2 _
                    subst e1 e2
                    have HNX : Hid (g.expos[j].nm ≠ name → ∀ y ∈ g.expos.take (j + 1), y.nm ≠ name) := Lib.hid fun h => all_next hlt HJ.out h
                    clear h1
                    generalize g.expos[j].nm = yn at *
                    by_cases hy : yn = name
                    · subst hy
                      clear HNX
                      go_wp2
                      go_ret
                      exact ⟨rfl, HWL.out⟩
                    · have HN := Lib.hid (HNX.out hy)
                      have hyb : (yn.toList == name.toList) = false := str_ne hy
                      clear HNX
                      go_wp2
                      go_roundw
                      case rel => exact ⟨j + 1, by go_num, by omega, by trivial, HN⟩
                      case measure => simp [intOf]; omega
                  · have hlti : ¬ (j : Int) < (g.expos.length : Int) := by omega
                    have HNO : Hid (∀ y ∈ g.expos, y.nm ≠ name) := Lib.hid (all_whole hlt HJ.out)
                    clear HJ
                    obtain ⟨hr2, hc2, hz2⟩ := own_name HRL.out name
                    have HR2 := Lib.hid hr2
                    have n6 : VL.cell? ⟨V3.heap.size + 1 + 1, 6, none⟩ = some (.slice (some ⟨g4, 0, none⟩) (g.expos.length + 1) d4) := (blk_cell HKL.out 6).trans rfl
                    have HFM : Hid (∀ b, b ≠ g4 → (VL.setCell ⟨g4, g.expos.length * 3, none⟩ (.string name)).heap[b]? = VL.heap[b]?) := Lib.hid fun b hb => far_set (fun e => hb e.symm) _
                    have HWM : Hid (Below w.heap.size w (VL.setCell ⟨g4, g.expos.length * 3, none⟩ (.string name))) := Lib.hid (HWL.out.trans ⟨rfl, rfl, rfl, by simp, fun b hb => HFM.out b (by have := HG4.out; have := HVB.out.2.2; have := HZ3.out; omega)⟩)
                    have HOM : Hid (Calls Try.prog 10 #[.agg #[.slice A0 g.types.length c0, .slice A1 g.imps.length c1, .slice A2 g.funcs.length c2, .slice A3 g.tabs.length c3, .slice A4 g.mems.length c4, .slice A5 g.globs.length c5, .slice (some ⟨g4, 0, none⟩) (g.expos.length + 1) d4, .slice A7 g.starts.length c7, .slice A8 g.els.length c8, .slice A9 g.counts.length c9, .slice A10 g.dats.length c10, .slice A11 g.cuss.length c11]] (VL.setCell ⟨g4, g.expos.length * 3, none⟩ (.string name)) (OfIs (VL.setCell ⟨g4, g.expos.length * 3, none⟩ (.string name)) (withE g (g.expos ++ [{ x with nm := name }])))) := Lib.hid (by
                      have h := of_any (withE g (g.expos ++ [{ x with nm := name }])) (⟨A0, A1, A2, A3, A4, A5, (some ⟨g4, 0, none⟩), A7, A8, A9, A10, A11, c0, c1, c2, c3, c4, c5, d4, c7, c8, c9, c10, c11⟩ : Pls) (VL.setCell ⟨g4, g.expos.length * 3, none⟩ (.string name)) (HMD.out _ (fun b hb => HWM.out.block b hb) _ HR2.out (by simp)) (withE_sm HS.out.1 (by have := HN7.out; omega) _ HNM.out)
                      rw [show (withE g (g.expos ++ [{ x with nm := name }])).expos.length = g.expos.length + 1 from by simp [withE]] at h
                      exact h)
                    unfold OfIs at HOM
                    rw [again_0 HR.out x HMEM.out name HNO.out] at HOM
                    have HKM := Lib.hid ((HFM.out (V3.heap.size + 1 + 1) (by have := HG4.out; have := HVB.out.2.2; omega)).trans HKL.out)
                    have k0 : (VL.setCell ⟨g4, g.expos.length * 3, none⟩ (.string name)).cell? ⟨V3.heap.size + 1 + 1, 0, none⟩ = some (.slice A0 g.types.length c0) := (blk_cell HKM.out 0).trans rfl
                    have k1 : (VL.setCell ⟨g4, g.expos.length * 3, none⟩ (.string name)).cell? ⟨V3.heap.size + 1 + 1, 1, none⟩ = some (.slice A1 g.imps.length c1) := (blk_cell HKM.out 1).trans rfl
                    have k2 : (VL.setCell ⟨g4, g.expos.length * 3, none⟩ (.string name)).cell? ⟨V3.heap.size + 1 + 1, 2, none⟩ = some (.slice A2 g.funcs.length c2) := (blk_cell HKM.out 2).trans rfl
                    have k3 : (VL.setCell ⟨g4, g.expos.length * 3, none⟩ (.string name)).cell? ⟨V3.heap.size + 1 + 1, 3, none⟩ = some (.slice A3 g.tabs.length c3) := (blk_cell HKM.out 3).trans rfl
                    have k4 : (VL.setCell ⟨g4, g.expos.length * 3, none⟩ (.string name)).cell? ⟨V3.heap.size + 1 + 1, 4, none⟩ = some (.slice A4 g.mems.length c4) := (blk_cell HKM.out 4).trans rfl
                    have k5 : (VL.setCell ⟨g4, g.expos.length * 3, none⟩ (.string name)).cell? ⟨V3.heap.size + 1 + 1, 5, none⟩ = some (.slice A5 g.globs.length c5) := (blk_cell HKM.out 5).trans rfl
                    have k6 : (VL.setCell ⟨g4, g.expos.length * 3, none⟩ (.string name)).cell? ⟨V3.heap.size + 1 + 1, 6, none⟩ = some (.slice (some ⟨g4, 0, none⟩) (g.expos.length + 1) d4) := (blk_cell HKM.out 6).trans rfl
                    have k7 : (VL.setCell ⟨g4, g.expos.length * 3, none⟩ (.string name)).cell? ⟨V3.heap.size + 1 + 1, 7, none⟩ = some (.slice A7 g.starts.length c7) := (blk_cell HKM.out 7).trans rfl
                    have k8 : (VL.setCell ⟨g4, g.expos.length * 3, none⟩ (.string name)).cell? ⟨V3.heap.size + 1 + 1, 8, none⟩ = some (.slice A8 g.els.length c8) := (blk_cell HKM.out 8).trans rfl
                    have k9 : (VL.setCell ⟨g4, g.expos.length * 3, none⟩ (.string name)).cell? ⟨V3.heap.size + 1 + 1, 9, none⟩ = some (.slice A9 g.counts.length c9) := (blk_cell HKM.out 9).trans rfl
                    have k10 : (VL.setCell ⟨g4, g.expos.length * 3, none⟩ (.string name)).cell? ⟨V3.heap.size + 1 + 1, 10, none⟩ = some (.slice A10 g.dats.length c10) := (blk_cell HKM.out 10).trans rfl
                    have k11 : (VL.setCell ⟨g4, g.expos.length * 3, none⟩ (.string name)).cell? ⟨V3.heap.size + 1 + 1, 11, none⟩ = some (.slice A11 g.cuss.length c11) := (blk_cell HKM.out 11).trans rfl
                    clear hr2 HRL HMD HKL
                    go_wp2_with fail
                    refine HOM.out.mono ?_
                    rintro en V12 ⟨q12, rfl, _, hb⟩
                    simp only [Plc.vals]
                    generalize ofC (withE g (g.expos ++ [{ x with nm := name }])) = k12 at *
                    have HWZ := Lib.hid (HWM.out.trans (hb.mono HWM.out.size))
                    clear hb HOM k0 k1 k2 k3 k4 k5 k6 k7 k8 k9 k10 k11
                    go_wp2
                    go_ret
                    exact ⟨rfl, HWZ.out.trans (((Below.refl _ _).alloc (Nat.le_refl _) _).mono HWZ.out.size)⟩
    · simp only [Plc.vals]
      generalize ofC g = c at *
      generalize ofE g = e at *
      go_wp2
      go_ret
      exact ⟨rfl, HV3.out.trans (((Below.refl _ _).alloc (Nat.le_refl _) _).mono HV3.out.size)⟩
theorem names_law (g : GMd) (p : Pls) (w : World) {ok : Nat → Prop} (hm : MdL w ok ok p g) (hg : Opn.GIn g) (i : Int) (name : ByteArray) (hnm : name.size ≤ maxLen) : Calls Try.prog 6 #[.agg #[.slice p.A0 g.types.length p.c0, .slice p.A1 g.imps.length p.c1, .slice p.A2 g.funcs.length p.c2, .slice p.A3 g.tabs.length p.c3, .slice p.A4 g.mems.length p.c4, .slice p.A5 g.globs.length p.c5, .slice p.A6 g.expos.length p.c6, .slice p.A7 g.starts.length p.c7, .slice p.A8 g.els.length p.c8, .slice p.A9 g.counts.length p.c9, .slice p.A10 g.dats.length p.c10, .slice p.A11 g.cuss.length p.c11], .int .i64 i, .string name] w (BoolIs w true) := by
  by_cases hi : i < 0 ∨ (g.expos.length : Int) ≤ i
  · exact names_out g p w hm hg i name hi
  · obtain ⟨k, rfl⟩ : ∃ k : Nat, i = (k : Int) := ⟨i.toNat, by omega⟩
    have hk : k < g.expos.length := by omega
    obtain ⟨b, off, hA, _⟩ := sm_expo hm.l6 k hk
    obtain ⟨A0, A1, A2, A3, A4, A5, A6, A7, A8, A9, A10, A11, c0, c1, c2, c3, c4, c5, c6, c7, c8, c9, c10, c11⟩ := p
    simp only at hA
    subst hA
    exact names_in g b off A0 A1 A2 A3 A4 A5 A7 A8 A9 A10 A11 c0 c1 c2 c3 c4 c5 c6 c7 c8 c9 c10 c11 w hm hg k (Lib.hid hk) name hnm
end Go.Proofs.Ytjajepeggphnbaa.Cx
