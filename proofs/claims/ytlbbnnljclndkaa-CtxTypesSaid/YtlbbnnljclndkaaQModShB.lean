/-
  ModShB: trammelref08.Short: what holds of a module if it is true. Conditions: the module lies in memory; its lengths are no greater than any are. (Written by wip/tools/genshort.py.)
-/
import Derived.Test.YtlbbnnljclndkaaQModShA
import Derived.Test.YtlbbnnljclndkaaQModSm
import Derived.Deep.RegionHeld3
import Derived.Deep.DeepCutAuto
namespace Go.Proofs.Ytlbbnnljclndkaa.Sh
open Go.RowKit Leb
open _root_.Go.Proofs.Ytlbbnnljclndkaa.Mod
open _root_.Go.Proofs.Ytlbbnnljclndkaa.Opn

def bsh (l : List Ins.Ins) : Prop := l.length ≤ 3000 ∧ ∀ y ∈ l, y.l.length ≤ 3000
def lens (g : GMd) : List Nat := [g.types.length, g.imps.length, g.funcs.length, g.tabs.length, g.mems.length, g.globs.length, g.expos.length, g.starts.length, g.els.length, g.counts.length, g.dats.length, g.cuss.length]
def P0 (g : GMd) : Prop := ∀ n ∈ lens g, n ≤ 70
def E0 (x : GFt) : Prop := x.1.length ≤ 3000 ∧ x.2.length ≤ 3000
def P1 (g : GMd) : Prop := P0 g ∧ ∀ x ∈ g.types, E0 x
def E1 (x : GImp) : Prop := x.md.size ≤ 3000 ∧ x.nm.size ≤ 3000
def P2 (g : GMd) : Prop := P1 g ∧ ∀ x ∈ g.imps, E1 x
def E2 (x : GFn) : Prop := x.locals.length ≤ 3000 ∧ bsh x.body
def P3 (g : GMd) : Prop := P2 g ∧ ∀ x ∈ g.funcs, E2 x
def E3 (x : GGlob) : Prop := bsh x.init
def P4 (g : GMd) : Prop := P3 g ∧ ∀ x ∈ g.globs, E3 x
def E4 (x : GExpo) : Prop := x.nm.size ≤ 3000
def P5 (g : GMd) : Prop := P4 g ∧ ∀ x ∈ g.expos, E4 x
def E5 (x : GEl) : Prop := x.fs.length ≤ 3000 ∧ bsh x.off
def P6 (g : GMd) : Prop := P5 g ∧ ∀ x ∈ g.els, E5 x
def E6 (x : GDat) : Prop := x.bs.length ≤ 3000 ∧ bsh x.off
def P7 (g : GMd) : Prop := P6 g ∧ ∀ x ∈ g.dats, E6 x
def E7 (x : GCus) : Prop := x.1.size ≤ 3000 ∧ x.2.length ≤ 3000
def P8 (g : GMd) : Prop := P7 g ∧ ∀ x ∈ g.cuss, E7 x
/-- What Short tells. -/
def ShortIs (w : World) (g : GMd) (en : Ending) (w' : World) : Prop := ∃ b : Bool, en = .returned (.bool b) ∧ (b = true → P8 g) ∧ Below w.heap.size w w'
def OutIs (V : World) (Q : Prop) (en : Ending) (V' : World) : Prop := ∃ m : Int, en = .returned (.int .i64 m) ∧ Hid (Sz m Q) ∧ V' = V
theorem all_next {α : Type} {P : α → Prop} {xs : List α} {j : Nat} (hj : j < xs.length) (h : ∀ x ∈ xs.take j, P x) (h2 : P xs[j]) : ∀ x ∈ xs.take (j + 1), P x := fun x hx => by
  rw [List.take_succ_eq_append_getElem hj] at hx
  rcases List.mem_append.1 hx with hx | hx
  · exact h x hx
  · have : x = xs[j] := by simpa using hx
    rw [this]; exact h2
theorem all_whole {α : Type} {P : α → Prop} {xs : List α} {j : Nat} (hj : ¬ j < xs.length) (h : ∀ x ∈ xs.take j, P x) : ∀ x ∈ xs, P x := by
  rwa [List.take_of_length_le (by omega)] at h
theorem p0_len {g : GMd} (h : P0 g) : g.types.length ≤ 70 ∧ g.imps.length ≤ 70 ∧ g.funcs.length ≤ 70 ∧ g.tabs.length ≤ 70 ∧ g.mems.length ≤ 70 ∧ g.globs.length ≤ 70 ∧ g.expos.length ≤ 70 ∧ g.starts.length ≤ 70 ∧ g.els.length ≤ 70 ∧ g.counts.length ≤ 70 ∧ g.dats.length ≤ 70 ∧ g.cuss.length ≤ 70 := by
  simpa [P0, lens] using h
def BoxM (w V : World) (g : GMd) (p : Pls) : Prop := V.cell? ⟨w.heap.size, 0, none⟩ = some (.slice p.A0 g.types.length p.c0) ∧ V.cell? ⟨w.heap.size, 1, none⟩ = some (.slice p.A1 g.imps.length p.c1) ∧ V.cell? ⟨w.heap.size, 2, none⟩ = some (.slice p.A2 g.funcs.length p.c2) ∧ V.cell? ⟨w.heap.size, 3, none⟩ = some (.slice p.A3 g.tabs.length p.c3) ∧ V.cell? ⟨w.heap.size, 4, none⟩ = some (.slice p.A4 g.mems.length p.c4) ∧ V.cell? ⟨w.heap.size, 5, none⟩ = some (.slice p.A5 g.globs.length p.c5) ∧ V.cell? ⟨w.heap.size, 6, none⟩ = some (.slice p.A6 g.expos.length p.c6) ∧ V.cell? ⟨w.heap.size, 7, none⟩ = some (.slice p.A7 g.starts.length p.c7) ∧ V.cell? ⟨w.heap.size, 8, none⟩ = some (.slice p.A8 g.els.length p.c8) ∧ V.cell? ⟨w.heap.size, 9, none⟩ = some (.slice p.A9 g.counts.length p.c9) ∧ V.cell? ⟨w.heap.size, 10, none⟩ = some (.slice p.A10 g.dats.length p.c10) ∧ V.cell? ⟨w.heap.size, 11, none⟩ = some (.slice p.A11 g.cuss.length p.c11)
set_option maxRecDepth 100000 in
set_option maxHeartbeats 16000000 in
theorem short_any (g : GMd) (p : Pls) (w : World) (ok : Nat → Prop) (hl : MdL w ok ok p g) (hg : GIn g) : Calls Try.prog 6 #[.agg #[.slice p.A0 g.types.length p.c0, .slice p.A1 g.imps.length p.c1, .slice p.A2 g.funcs.length p.c2, .slice p.A3 g.tabs.length p.c3, .slice p.A4 g.mems.length p.c4, .slice p.A5 g.globs.length p.c5, .slice p.A6 g.expos.length p.c6, .slice p.A7 g.starts.length p.c7, .slice p.A8 g.els.length p.c8, .slice p.A9 g.counts.length p.c9, .slice p.A10 g.dats.length p.c10, .slice p.A11 g.cuss.length p.c11]] w (ShortIs w g) := by
  have hb1 : Below w.heap.size w (w.alloc (.cells #[.slice p.A0 g.types.length p.c0, .slice p.A1 g.imps.length p.c1, .slice p.A2 g.funcs.length p.c2, .slice p.A3 g.tabs.length p.c3, .slice p.A4 g.mems.length p.c4, .slice p.A5 g.globs.length p.c5, .slice p.A6 g.expos.length p.c6, .slice p.A7 g.starts.length p.c7, .slice p.A8 g.els.length p.c8, .slice p.A9 g.counts.length p.c9, .slice p.A10 g.dats.length p.c10, .slice p.A11 g.cuss.length p.c11] 33)) := (Below.refl _ _).alloc (Nat.le_refl _) _
  have hb2 : Below w.heap.size w ((w.alloc (.cells #[.slice p.A0 g.types.length p.c0, .slice p.A1 g.imps.length p.c1, .slice p.A2 g.funcs.length p.c2, .slice p.A3 g.tabs.length p.c3, .slice p.A4 g.mems.length p.c4, .slice p.A5 g.globs.length p.c5, .slice p.A6 g.expos.length p.c6, .slice p.A7 g.starts.length p.c7, .slice p.A8 g.els.length p.c8, .slice p.A9 g.counts.length p.c9, .slice p.A10 g.dats.length p.c10, .slice p.A11 g.cuss.length p.c11] 33)).alloc (.cells #[.int .i64 (g.types.length : Int), .int .i64 (g.imps.length : Int), .int .i64 (g.funcs.length : Int), .int .i64 (g.tabs.length : Int), .int .i64 (g.mems.length : Int), .int .i64 (g.globs.length : Int), .int .i64 (g.expos.length : Int), .int .i64 (g.starts.length : Int), .int .i64 (g.els.length : Int), .int .i64 (g.counts.length : Int), .int .i64 (g.dats.length : Int), .int .i64 (g.cuss.length : Int)] 3)) := hb1.alloc (by simp) _
  have HBX : Hid (∀ V, Below ((w.alloc (.cells #[.slice p.A0 g.types.length p.c0, .slice p.A1 g.imps.length p.c1, .slice p.A2 g.funcs.length p.c2, .slice p.A3 g.tabs.length p.c3, .slice p.A4 g.mems.length p.c4, .slice p.A5 g.globs.length p.c5, .slice p.A6 g.expos.length p.c6, .slice p.A7 g.starts.length p.c7, .slice p.A8 g.els.length p.c8, .slice p.A9 g.counts.length p.c9, .slice p.A10 g.dats.length p.c10, .slice p.A11 g.cuss.length p.c11] 33)).alloc (.cells #[.int .i64 (g.types.length : Int), .int .i64 (g.imps.length : Int), .int .i64 (g.funcs.length : Int), .int .i64 (g.tabs.length : Int), .int .i64 (g.mems.length : Int), .int .i64 (g.globs.length : Int), .int .i64 (g.expos.length : Int), .int .i64 (g.starts.length : Int), .int .i64 (g.els.length : Int), .int .i64 (g.counts.length : Int), .int .i64 (g.dats.length : Int), .int .i64 (g.cuss.length : Int)] 3)).heap.size ((w.alloc (.cells #[.slice p.A0 g.types.length p.c0, .slice p.A1 g.imps.length p.c1, .slice p.A2 g.funcs.length p.c2, .slice p.A3 g.tabs.length p.c3, .slice p.A4 g.mems.length p.c4, .slice p.A5 g.globs.length p.c5, .slice p.A6 g.expos.length p.c6, .slice p.A7 g.starts.length p.c7, .slice p.A8 g.els.length p.c8, .slice p.A9 g.counts.length p.c9, .slice p.A10 g.dats.length p.c10, .slice p.A11 g.cuss.length p.c11] 33)).alloc (.cells #[.int .i64 (g.types.length : Int), .int .i64 (g.imps.length : Int), .int .i64 (g.funcs.length : Int), .int .i64 (g.tabs.length : Int), .int .i64 (g.mems.length : Int), .int .i64 (g.globs.length : Int), .int .i64 (g.expos.length : Int), .int .i64 (g.starts.length : Int), .int .i64 (g.els.length : Int), .int .i64 (g.counts.length : Int), .int .i64 (g.dats.length : Int), .int .i64 (g.cuss.length : Int)] 3)) V → BoxM w V g p) := Lib.hid fun V hV => by
    refine ⟨?_, ?_, ?_, ?_, ?_, ?_, ?_, ?_, ?_, ?_, ?_, ?_⟩
    all_goals exact (hV.cell (by simp; omega)).trans (by simp)
  have HRW : Hid (∀ (j : Nat) (h : j < (lens g).length), ((w.alloc (.cells #[.slice p.A0 g.types.length p.c0, .slice p.A1 g.imps.length p.c1, .slice p.A2 g.funcs.length p.c2, .slice p.A3 g.tabs.length p.c3, .slice p.A4 g.mems.length p.c4, .slice p.A5 g.globs.length p.c5, .slice p.A6 g.expos.length p.c6, .slice p.A7 g.starts.length p.c7, .slice p.A8 g.els.length p.c8, .slice p.A9 g.counts.length p.c9, .slice p.A10 g.dats.length p.c10, .slice p.A11 g.cuss.length p.c11] 33)).alloc (.cells #[.int .i64 (g.types.length : Int), .int .i64 (g.imps.length : Int), .int .i64 (g.funcs.length : Int), .int .i64 (g.tabs.length : Int), .int .i64 (g.mems.length : Int), .int .i64 (g.globs.length : Int), .int .i64 (g.expos.length : Int), .int .i64 (g.starts.length : Int), .int .i64 (g.els.length : Int), .int .i64 (g.counts.length : Int), .int .i64 (g.dats.length : Int), .int .i64 (g.cuss.length : Int)] 3)).cell? ⟨w.heap.size + 1, j, none⟩ = some (.int .i64 ((lens g)[j] : Int))) := Lib.hid fun j h => by
    have hj : j < 12 := h
    have hk : j = 0 ∨ j = 1 ∨ j = 2 ∨ j = 3 ∨ j = 4 ∨ j = 5 ∨ j = 6 ∨ j = 7 ∨ j = 8 ∨ j = 9 ∨ j = 10 ∨ j = 11 := by omega
    rcases hk with rfl | rfl | rfl | rfl | rfl | rfl | rfl | rfl | rfl | rfl | rfl | rfl <;> simp [lens]
  have HB := Lib.hid hb2
  have HL := Lib.hid hl
  have HG := Lib.hid hg
  have HLE : Hid ((lens g).length = 12) := Lib.hid rfl
  clear hl hb1 hb2 hg
  go_enter Try.func6, Try.ntmps6
  go_wp2_with fail
  generalize (w.alloc (.cells #[.slice p.A0 g.types.length p.c0, .slice p.A1 g.imps.length p.c1, .slice p.A2 g.funcs.length p.c2, .slice p.A3 g.tabs.length p.c3, .slice p.A4 g.mems.length p.c4, .slice p.A5 g.globs.length p.c5, .slice p.A6 g.expos.length p.c6, .slice p.A7 g.starts.length p.c7, .slice p.A8 g.els.length p.c8, .slice p.A9 g.counts.length p.c9, .slice p.A10 g.dats.length p.c10, .slice p.A11 g.cuss.length p.c11] 33)).alloc (.cells #[.int .i64 (g.types.length : Int), .int .i64 (g.imps.length : Int), .int .i64 (g.funcs.length : Int), .int .i64 (g.tabs.length : Int), .int .i64 (g.mems.length : Int), .int .i64 (g.globs.length : Int), .int .i64 (g.expos.length : Int), .int .i64 (g.starts.length : Int), .int .i64 (g.els.length : Int), .int .i64 (g.counts.length : Int), .int .i64 (g.dats.length : Int), .int .i64 (g.cuss.length : Int)] 3) = W at *
  go_loopw [60] (fun i wr => ∃ j : Nat, j ≤ 12 ∧ i = .int .i64 (j : Int) ∧ Hid (∀ n ∈ (lens g).take j, n ≤ 70) ∧ wr = W) (fun i _ => 12 - (intOf i).toNat)
  case atStart => exact ⟨0, Nat.zero_le _, rfl, Lib.hid (by simp), rfl⟩
  case round =>
    obtain ⟨j, hj, rfl, HI, hwr⟩ := hrel
    subst wr
    by_cases hlt : j < 12
    · have hlti : (j : Int) < 12 := by omega
      have hle : j < (lens g).length := by rw [HLE.out]; exact hlt
      have y0 := HRW.out j hle
      have HN : Hid ((lens g)[j] ≤ 70 → ∀ n ∈ (lens g).take (j + 1), n ≤ 70) := Lib.hid fun h => all_next hle HI.out h
      generalize (lens g)[j] = n at *
      by_cases hn : (70 : Int) < (n : Int)
      · clear HN HI
        go_wp2
        go_ret
        exact ⟨false, rfl, by simp, HB.out⟩
      · have HN2 := Lib.hid (HN.out (by omega))
        clear HN HI
        go_wp2
        go_roundw
        case rel => exact ⟨j + 1, by omega, by go_num, HN2, by trivial⟩
        case measure => simp [intOf]; omega
    · have HP0 : Hid (P0 g) := Lib.hid (by
        have h := HI.out
        rwa [List.take_of_length_le (by rw [HLE.out]; omega)] at h)
      have hlti : ¬ (j : Int) < 12 := by omega
      clear HI HRW
      have HWB := Lib.hid (Below.refl W.heap.size W)
      have HSZ : Hid (Sz 0 (P0 g)) := Lib.hid (.inr ⟨by omega, by omega, HP0.out⟩)
      have y : W.cell? ⟨w.heap.size, 0, none⟩ = some (.slice p.A0 g.types.length p.c0) := (HBX.out _ HWB.out).1
      have HS0 : Hid (Sz 0 (P0 g ∧ ∀ x ∈ g.types.take 0, E0 x)) := Lib.hid (HSZ.out.imp fun h => ⟨h, by simp⟩)
      have hlen : (g.types.length : Int) ≤ 70 := by have := p0_len HP0.out; omega
      clear HSZ
      go_wp2_with fail
      clear y
      go_loopw [5, 70] (fun o i wr => ∃ (j : Nat) (m : Int), j ≤ g.types.length ∧ o = .int .i64 m ∧ i = .int .i64 (j : Int) ∧ Hid (Sz m (P0 g ∧ ∀ x ∈ g.types.take j, E0 x)) ∧ Hid (Below W.heap.size W wr)) (fun _ i _ => g.types.length - (intOf i).toNat)
      case atStart => exact ⟨0, _, Nat.zero_le _, rfl, rfl, HS0, HWB⟩
      case round =>
        clear HS0 HWB
        obtain ⟨j, m, hj, rfl, rfl, HS, HWB⟩ := hrel
        by_cases hlt : j < g.types.length
        · have hlti : (j : Int) < (g.types.length : Int) := by omega
          obtain ⟨b, off, A1, c1, A2, c2, hA, h1⟩ := sm_ft HL.out.l0 j hlt
          have HXI := Lib.hid (HG.out.types.1 _ (List.getElem_mem hlt))
          have hw : Below w.heap.size w wr := HB.out.trans (HWB.out.mono HB.out.size)
          obtain ⟨Q1, HQ1⟩ : ∃ Q1 : Prop, Hid (Q1 = ((P0 g ∧ ∀ x ∈ g.types.take j, E0 x) ∧ g.types[j].1.length ≤ 3000)) := ⟨_, Lib.hid rfl⟩
          have HM0 : Hid (∀ (V : World) (n0 : Int), Hid (Sz n0 (P0 g ∧ ∀ x ∈ g.types.take j, E0 x)) → Calls Try.prog 12 #[.int .i64 n0, .int .i64 (g.types[j].1.length : Int)] V (OutIs V Q1)) := Lib.hid fun V n0 h => by
            refine (more_any n0 _ V _ h.out HXI.out.1.2).mono ?_
            rintro en V2 ⟨m2, e, h2, h3⟩
            exact ⟨m2, e, Lib.hid (h2.imp (fun h => by rw [HQ1.out]; exact h)), h3⟩
          have HM1 : Hid (∀ (V : World) (n0 : Int), Hid (Sz n0 Q1) → Calls Try.prog 12 #[.int .i64 n0, .int .i64 (g.types[j].2.length : Int)] V (OutIs V (P0 g ∧ ∀ x ∈ g.types.take (j + 1), E0 x))) := Lib.hid fun V n0 h => by
            refine (more_any n0 _ V _ h.out HXI.out.2.2).mono ?_
            rintro en V2 ⟨m2, e, h2, h3⟩
            exact ⟨m2, e, Lib.hid (h2.imp (fun h => by rw [HQ1.out] at h; exact ⟨h.1.1.1, all_next hlt h.1.1.2 ⟨h.1.2, h.2⟩⟩)), h3⟩
          obtain ⟨q0, q1, _, _⟩ := h1 wr hw
          rw [hA]
          clear h1 hA HXI HQ1
          generalize g.types[j] = x at *
          have hbx : Below W.heap.size W (wr.alloc (.cells #[.slice A1 x.1.length c1, .slice A2 x.2.length c2] 46)) := HWB.out.trans ((Below.refl wr.heap.size wr).alloc (Nat.le_refl _) _ |>.mono HWB.out.size)
          have z0 : (wr.alloc (.cells #[.slice A1 x.1.length c1, .slice A2 x.2.length c2] 46)).cell? ⟨wr.heap.size, 0, none⟩ = some (.slice A1 x.1.length c1) := by simp
          have z1 : (wr.alloc (.cells #[.slice A1 x.1.length c1, .slice A2 x.2.length c2] 46)).cell? ⟨wr.heap.size, 1, none⟩ = some (.slice A2 x.2.length c2) := by simp
          go_upto_region 11 with fail
          generalize wr.alloc (.cells #[.slice A1 x.1.length c1, .slice A2 x.2.length c2] 46) = V at *
          generalize wr.heap.size = bx at *
          clear hw q0 q1
          generalize x.1.length = s0 at *
          generalize x.2.length = s1 at *
          have hS : Below W.heap.size W V.drew ∧ V.drew.cell? ⟨bx, 0, none⟩ = some (.slice A1 s0 c1) ∧ V.drew.cell? ⟨bx, 1, none⟩ = some (.slice A2 s1 c2) := ⟨hbx.drew, z0, z1⟩
          clear hbx z0 z1
          go_wp2_with fail
          refine wp_region_held_drew (S := fun V => Below W.heap.size W V ∧ V.cell? ⟨bx, 0, none⟩ = some (.slice A1 s0 c1) ∧ V.cell? ⟨bx, 1, none⟩ = some (.slice A2 s1 c2)) (by kernel_rfl) hS (fun hS => ?_)
          generalize V.drew = V2 at *
          refine wpAnyH_take (i := 0) (oi := { dst := some 74, op := .move (.tmp 5), type := 3, pos := "enc.go:276", after := #[], guard := none }) (v := ?_) rfl (by kernel_rfl) (by kernel_rfl) (by kernel_rfl) (fun _ _ _ h => h) (Or.inl ⟨by rfl, ?_⟩) hS ?_
          rotate_left
          · (intro w' hS'; obtain ⟨-, e0, e1⟩ := hS'; go_simp) <;> with_reducible rfl
          try simp only [Act.put, List.setIfInBounds_toArray, List.set_cons_zero, List.set_cons_succ]
          refine wpAnyH_take (i := 1) (oi := { dst := some 75, op := .fieldAddr 46 (.tmp 7) 0, type := 0, pos := "enc.go:276", after := #[], guard := none }) (v := ?_) rfl (by kernel_rfl) (by kernel_rfl) (by kernel_rfl) (fun _ _ _ h => h) (Or.inl ⟨by rfl, ?_⟩) hS ?_
          rotate_left
          · (intro w' hS'; obtain ⟨-, e0, e1⟩ := hS'; go_simp) <;> with_reducible rfl
          try simp only [Act.put, List.setIfInBounds_toArray, List.set_cons_zero, List.set_cons_succ]
          refine wpAnyH_take (i := 2) (oi := { dst := some 76, op := .load 28 (.tmp 75), type := 28, pos := "enc.go:276", after := #[{ on := 1, ground := .data }], guard := none }) (v := ?_) rfl (by kernel_rfl) (by kernel_rfl) (by kernel_rfl) (fun _ _ _ h => h) (Or.inl ⟨by rfl, ?_⟩) hS ?_
          rotate_left
          · (intro w' hS'; obtain ⟨-, e0, e1⟩ := hS'; go_simp) <;> with_reducible rfl
          try simp only [Act.put, List.setIfInBounds_toArray, List.set_cons_zero, List.set_cons_succ]
          refine wpAnyH_take (i := 3) (oi := { dst := some 77, op := .call { callee := .builtin .len, args := #[.tmp 76], argTypes := #[28] }, type := 3, pos := "enc.go:276", after := #[{ on := 2, ground := .data }], guard := none }) (v := ?_) rfl (by kernel_rfl) (by kernel_rfl) (by kernel_rfl) (fun _ _ _ h => h) (Or.inl ⟨by rfl, ?_⟩) hS ?_
          rotate_left
          · (intro w' hS'; obtain ⟨-, e0, e1⟩ := hS'; go_simp) <;> with_reducible rfl
          try simp only [Act.put, List.setIfInBounds_toArray, List.set_cons_zero, List.set_cons_succ]
          refine wpAnyH_take (i := 5) (oi := { dst := some 79, op := .fieldAddr 46 (.tmp 7) 1, type := 0, pos := "enc.go:276", after := #[], guard := none }) (v := ?_) rfl (by kernel_rfl) (by kernel_rfl) (by kernel_rfl) (fun _ _ _ h => h) (Or.inl ⟨by rfl, ?_⟩) hS ?_
          rotate_left
          · (intro w' hS'; obtain ⟨-, e0, e1⟩ := hS'; go_simp) <;> with_reducible rfl
          try simp only [Act.put, List.setIfInBounds_toArray, List.set_cons_zero, List.set_cons_succ]
          refine wpAnyH_take (i := 6) (oi := { dst := some 80, op := .load 28 (.tmp 79), type := 28, pos := "enc.go:276", after := #[{ on := 5, ground := .data }], guard := none }) (v := ?_) rfl (by kernel_rfl) (by kernel_rfl) (by kernel_rfl) (fun _ _ _ h => h) (Or.inl ⟨by rfl, ?_⟩) hS ?_
          rotate_left
          · (intro w' hS'; obtain ⟨-, e0, e1⟩ := hS'; go_simp) <;> with_reducible rfl
          try simp only [Act.put, List.setIfInBounds_toArray, List.set_cons_zero, List.set_cons_succ]
          refine wpAnyH_take (i := 7) (oi := { dst := some 81, op := .call { callee := .builtin .len, args := #[.tmp 80], argTypes := #[28] }, type := 3, pos := "enc.go:276", after := #[{ on := 6, ground := .data }], guard := none }) (v := ?_) rfl (by kernel_rfl) (by kernel_rfl) (by kernel_rfl) (fun _ _ _ h => h) (Or.inl ⟨by rfl, ?_⟩) hS ?_
          rotate_left
          · (intro w' hS'; obtain ⟨-, e0, e1⟩ := hS'; go_simp) <;> with_reducible rfl
          try simp only [Act.put, List.setIfInBounds_toArray, List.set_cons_zero, List.set_cons_succ]
          refine wpAnyH_ready (rs := [4]) (by kernel_rfl) (by simp) ?_
          refine AllReadyH.cons (o := { dst := some 78, op := .call { callee := .value (.func 12), args := #[.tmp 74, .tmp 77], argTypes := #[3, 3] }, type := 3, pos := "enc.go:276", after := #[{ on := 0, ground := .data }, { on := 3, ground := .data }], guard := none }) rfl (fun K' hK => ?_) AllReadyH.nil
          go_simp
          refine (HM0.out _ _ HS).mono ?_
          rintro en V3 ⟨m0x, rfl, hm0, hV3⟩
          subst V3
          go_wp2_with fail
          refine hK.out _ _ hS (fun _ => ?_)
          clear hK K'
          try simp only [Act.put, List.setIfInBounds_toArray, List.set_cons_zero, List.set_cons_succ]
          refine wpAnyH_ready (rs := [8]) (by kernel_rfl) (by simp) ?_
          refine AllReadyH.cons (o := { dst := some 82, op := .call { callee := .value (.func 12), args := #[.tmp 78, .tmp 81], argTypes := #[3, 3] }, type := 3, pos := "enc.go:276", after := #[{ on := 4, ground := .data }, { on := 7, ground := .data }, { on := 4, ground := .chain }], guard := none }) rfl (fun K' hK => ?_) AllReadyH.nil
          go_simp
          refine (HM1.out _ _ hm0).mono ?_
          rintro en V3 ⟨m1x, rfl, hm1, hV3⟩
          subst V3
          go_wp2_with fail
          refine hK.out _ _ hS (fun _ => ?_)
          clear hK K'
          try simp only [Act.put, List.setIfInBounds_toArray, List.set_cons_zero, List.set_cons_succ]
          refine wpAnyH_take (i := 9) (oi := { dst := some 5, op := .assign (.tmp 82), type := 3, pos := "enc.go:276", after := #[{ on := 8, ground := .data }, { on := 8, ground := .chain }, { on := 0, ground := .phase }, { on := 1, ground := .phase }, { on := 2, ground := .phase }, { on := 3, ground := .phase }, { on := 4, ground := .phase }, { on := 5, ground := .phase }, { on := 6, ground := .phase }, { on := 7, ground := .phase }, { on := 8, ground := .phase }], guard := none }) (v := ?_) rfl (by kernel_rfl) (by kernel_rfl) (by kernel_rfl) (fun _ _ _ h => h) (Or.inl ⟨by rfl, ?_⟩) hS ?_
          rotate_left
          · (intro w' hS'; obtain ⟨-, e0, e1⟩ := hS'; go_simp) <;> with_reducible rfl
          try simp only [Act.put, List.setIfInBounds_toArray, List.set_cons_zero, List.set_cons_succ]
          refine wpAnyH_done (by kernel_rfl) ?_ _
          go_wp2
          go_roundw
          case rel => exact ⟨j + 1, _, by omega, rfl, by go_num, hm1, Lib.hid hS.1⟩
          case measure => simp [intOf]; omega
        · have hlti : ¬ (j : Int) < (g.types.length : Int) := by omega
          have HSZ : Hid (Sz m (P1 g)) := Lib.hid (HS.out.imp fun h => ⟨h.1, all_whole hlt h.2⟩)
          clear HS hlen hj hlt
          rename World => w1
          rename Int => m1
          have y : w1.cell? ⟨w.heap.size, 1, none⟩ = some (.slice p.A1 g.imps.length p.c1) := (HBX.out _ HWB.out).2.1
          have HS0 : Hid (Sz m1 (P1 g ∧ ∀ x ∈ g.imps.take 0, E1 x)) := Lib.hid (HSZ.out.imp fun h => ⟨h, by simp⟩)
          have hlen : (g.imps.length : Int) ≤ 70 := by have := p0_len HP0.out; omega
          clear HSZ
          go_wp2_with fail
          clear y
          go_loopw [5, 87] (fun o i wr => ∃ (j : Nat) (m : Int), j ≤ g.imps.length ∧ o = .int .i64 m ∧ i = .int .i64 (j : Int) ∧ Hid (Sz m (P1 g ∧ ∀ x ∈ g.imps.take j, E1 x)) ∧ Hid (Below W.heap.size W wr)) (fun _ i _ => g.imps.length - (intOf i).toNat)
          case atStart => exact ⟨0, _, Nat.zero_le _, rfl, rfl, HS0, HWB⟩
          case round =>
            clear HS0 HWB
            obtain ⟨j, m, hj, rfl, rfl, HS, HWB⟩ := hrel
            by_cases hlt : j < g.imps.length
            · have hlti : (j : Int) < (g.imps.length : Int) := by omega
              obtain ⟨b, off, hA, h1⟩ := sm_imp HL.out.l1 j hlt
              have HXI := Lib.hid (HG.out.imps.1 _ (List.getElem_mem hlt))
              have hw : Below w.heap.size w wr := HB.out.trans (HWB.out.mono HB.out.size)
              obtain ⟨Q1, HQ1⟩ : ∃ Q1 : Prop, Hid (Q1 = ((P1 g ∧ ∀ x ∈ g.imps.take j, E1 x) ∧ g.imps[j].md.size ≤ 3000)) := ⟨_, Lib.hid rfl⟩
              have HM0 : Hid (∀ (V : World) (n0 : Int), Hid (Sz n0 (P1 g ∧ ∀ x ∈ g.imps.take j, E1 x)) → Calls Try.prog 12 #[.int .i64 n0, .int .i64 (g.imps[j].md.size : Int)] V (OutIs V Q1)) := Lib.hid fun V n0 h => by
                refine (more_any n0 _ V _ h.out HXI.out.1).mono ?_
                rintro en V2 ⟨m2, e, h2, h3⟩
                exact ⟨m2, e, Lib.hid (h2.imp (fun h => by rw [HQ1.out]; exact h)), h3⟩
              have HM1 : Hid (∀ (V : World) (n0 : Int), Hid (Sz n0 Q1) → Calls Try.prog 12 #[.int .i64 n0, .int .i64 (g.imps[j].nm.size : Int)] V (OutIs V (P1 g ∧ ∀ x ∈ g.imps.take (j + 1), E1 x))) := Lib.hid fun V n0 h => by
                refine (more_any n0 _ V _ h.out HXI.out.2.1).mono ?_
                rintro en V2 ⟨m2, e, h2, h3⟩
                exact ⟨m2, e, Lib.hid (h2.imp (fun h => by rw [HQ1.out] at h; exact ⟨h.1.1.1, all_next hlt h.1.1.2 ⟨h.1.2, h.2⟩⟩)), h3⟩
              obtain ⟨q0, q1, q2, q3, q4, q5, q6, q7⟩ := h1 wr hw
              rw [hA]
              clear h1 hA HXI HQ1
              generalize g.imps[j] = x at *
              have hbx : Below W.heap.size W (wr.alloc (.cells #[.string x.md, .string x.nm, .int .i64 x.kind, .int .i64 x.ty, .int .i64 x.lim.1, .bool x.lim.2.1, .int .i64 x.lim.2.2, .bool x.mu] 62)) := HWB.out.trans ((Below.refl wr.heap.size wr).alloc (Nat.le_refl _) _ |>.mono HWB.out.size)
              have z0 : (wr.alloc (.cells #[.string x.md, .string x.nm, .int .i64 x.kind, .int .i64 x.ty, .int .i64 x.lim.1, .bool x.lim.2.1, .int .i64 x.lim.2.2, .bool x.mu] 62)).cell? ⟨wr.heap.size, 0, none⟩ = some (.string x.md) := by simp
              have z1 : (wr.alloc (.cells #[.string x.md, .string x.nm, .int .i64 x.kind, .int .i64 x.ty, .int .i64 x.lim.1, .bool x.lim.2.1, .int .i64 x.lim.2.2, .bool x.mu] 62)).cell? ⟨wr.heap.size, 1, none⟩ = some (.string x.nm) := by simp
              have z2 : (wr.alloc (.cells #[.string x.md, .string x.nm, .int .i64 x.kind, .int .i64 x.ty, .int .i64 x.lim.1, .bool x.lim.2.1, .int .i64 x.lim.2.2, .bool x.mu] 62)).cell? ⟨wr.heap.size, 2, none⟩ = some (.int .i64 x.kind) := by simp
              have z3 : (wr.alloc (.cells #[.string x.md, .string x.nm, .int .i64 x.kind, .int .i64 x.ty, .int .i64 x.lim.1, .bool x.lim.2.1, .int .i64 x.lim.2.2, .bool x.mu] 62)).cell? ⟨wr.heap.size, 3, none⟩ = some (.int .i64 x.ty) := by simp
              have z4 : (wr.alloc (.cells #[.string x.md, .string x.nm, .int .i64 x.kind, .int .i64 x.ty, .int .i64 x.lim.1, .bool x.lim.2.1, .int .i64 x.lim.2.2, .bool x.mu] 62)).cell? ⟨wr.heap.size, 4, none⟩ = some (.int .i64 x.lim.1) := by simp
              have z5 : (wr.alloc (.cells #[.string x.md, .string x.nm, .int .i64 x.kind, .int .i64 x.ty, .int .i64 x.lim.1, .bool x.lim.2.1, .int .i64 x.lim.2.2, .bool x.mu] 62)).cell? ⟨wr.heap.size, 5, none⟩ = some (.bool x.lim.2.1) := by simp
              have z6 : (wr.alloc (.cells #[.string x.md, .string x.nm, .int .i64 x.kind, .int .i64 x.ty, .int .i64 x.lim.1, .bool x.lim.2.1, .int .i64 x.lim.2.2, .bool x.mu] 62)).cell? ⟨wr.heap.size, 6, none⟩ = some (.int .i64 x.lim.2.2) := by simp
              have z7 : (wr.alloc (.cells #[.string x.md, .string x.nm, .int .i64 x.kind, .int .i64 x.ty, .int .i64 x.lim.1, .bool x.lim.2.1, .int .i64 x.lim.2.2, .bool x.mu] 62)).cell? ⟨wr.heap.size, 7, none⟩ = some (.bool x.mu) := by simp
              go_upto_region 16 with fail
              generalize wr.alloc (.cells #[.string x.md, .string x.nm, .int .i64 x.kind, .int .i64 x.ty, .int .i64 x.lim.1, .bool x.lim.2.1, .int .i64 x.lim.2.2, .bool x.mu] 62) = V at *
              generalize wr.heap.size = bx at *
              clear hw q0 q1 q2 q3 q4 q5 q6 q7
              have hS : Below W.heap.size W V.drew ∧ V.drew.cell? ⟨bx, 0, none⟩ = some (.string x.md) ∧ V.drew.cell? ⟨bx, 1, none⟩ = some (.string x.nm) ∧ V.drew.cell? ⟨bx, 2, none⟩ = some (.int .i64 x.kind) ∧ V.drew.cell? ⟨bx, 3, none⟩ = some (.int .i64 x.ty) ∧ V.drew.cell? ⟨bx, 4, none⟩ = some (.int .i64 x.lim.1) ∧ V.drew.cell? ⟨bx, 5, none⟩ = some (.bool x.lim.2.1) ∧ V.drew.cell? ⟨bx, 6, none⟩ = some (.int .i64 x.lim.2.2) ∧ V.drew.cell? ⟨bx, 7, none⟩ = some (.bool x.mu) := ⟨hbx.drew, z0, z1, z2, z3, z4, z5, z6, z7⟩
              clear hbx z0 z1 z2 z3 z4 z5 z6 z7
              go_wp2_with fail
              refine wp_region_held_drew (S := fun V => Below W.heap.size W V ∧ V.cell? ⟨bx, 0, none⟩ = some (.string x.md) ∧ V.cell? ⟨bx, 1, none⟩ = some (.string x.nm) ∧ V.cell? ⟨bx, 2, none⟩ = some (.int .i64 x.kind) ∧ V.cell? ⟨bx, 3, none⟩ = some (.int .i64 x.ty) ∧ V.cell? ⟨bx, 4, none⟩ = some (.int .i64 x.lim.1) ∧ V.cell? ⟨bx, 5, none⟩ = some (.bool x.lim.2.1) ∧ V.cell? ⟨bx, 6, none⟩ = some (.int .i64 x.lim.2.2) ∧ V.cell? ⟨bx, 7, none⟩ = some (.bool x.mu)) (by kernel_rfl) hS (fun hS => ?_)
              generalize V.drew = V2 at *
              refine wpAnyH_take (i := 0) (oi := { dst := some 91, op := .move (.tmp 5), type := 3, pos := "enc.go:279", after := #[], guard := none }) (v := ?_) rfl (by kernel_rfl) (by kernel_rfl) (by kernel_rfl) (fun _ _ _ h => h) (Or.inl ⟨by rfl, ?_⟩) hS ?_
              rotate_left
              · (intro w' hS'; obtain ⟨-, e0, e1, e2, e3, e4, e5, e6, e7⟩ := hS'; go_simp) <;> with_reducible rfl
              try simp only [Act.put, List.setIfInBounds_toArray, List.set_cons_zero, List.set_cons_succ]
              refine wpAnyH_take (i := 1) (oi := { dst := some 92, op := .fieldAddr 62 (.tmp 9) 0, type := 0, pos := "enc.go:279", after := #[], guard := none }) (v := ?_) rfl (by kernel_rfl) (by kernel_rfl) (by kernel_rfl) (fun _ _ _ h => h) (Or.inl ⟨by rfl, ?_⟩) hS ?_
              rotate_left
              · (intro w' hS'; obtain ⟨-, e0, e1, e2, e3, e4, e5, e6, e7⟩ := hS'; go_simp) <;> with_reducible rfl
              try simp only [Act.put, List.setIfInBounds_toArray, List.set_cons_zero, List.set_cons_succ]
              refine wpAnyH_take (i := 2) (oi := { dst := some 93, op := .load 9 (.tmp 92), type := 9, pos := "enc.go:279", after := #[{ on := 1, ground := .data }], guard := none }) (v := ?_) rfl (by kernel_rfl) (by kernel_rfl) (by kernel_rfl) (fun _ _ _ h => h) (Or.inl ⟨by rfl, ?_⟩) hS ?_
              rotate_left
              · (intro w' hS'; obtain ⟨-, e0, e1, e2, e3, e4, e5, e6, e7⟩ := hS'; go_simp) <;> with_reducible rfl
              try simp only [Act.put, List.setIfInBounds_toArray, List.set_cons_zero, List.set_cons_succ]
              refine wpAnyH_take (i := 3) (oi := { dst := some 94, op := .call { callee := .builtin .len, args := #[.tmp 93], argTypes := #[9] }, type := 3, pos := "enc.go:279", after := #[{ on := 2, ground := .data }], guard := none }) (v := ?_) rfl (by kernel_rfl) (by kernel_rfl) (by kernel_rfl) (fun _ _ _ h => h) (Or.inl ⟨by rfl, ?_⟩) hS ?_
              rotate_left
              · (intro w' hS'; obtain ⟨-, e0, e1, e2, e3, e4, e5, e6, e7⟩ := hS'; go_simp) <;> with_reducible rfl
              try simp only [Act.put, List.setIfInBounds_toArray, List.set_cons_zero, List.set_cons_succ]
              refine wpAnyH_take (i := 5) (oi := { dst := some 96, op := .fieldAddr 62 (.tmp 9) 1, type := 0, pos := "enc.go:279", after := #[], guard := none }) (v := ?_) rfl (by kernel_rfl) (by kernel_rfl) (by kernel_rfl) (fun _ _ _ h => h) (Or.inl ⟨by rfl, ?_⟩) hS ?_
              rotate_left
              · (intro w' hS'; obtain ⟨-, e0, e1, e2, e3, e4, e5, e6, e7⟩ := hS'; go_simp) <;> with_reducible rfl
              try simp only [Act.put, List.setIfInBounds_toArray, List.set_cons_zero, List.set_cons_succ]
              refine wpAnyH_take (i := 6) (oi := { dst := some 97, op := .load 9 (.tmp 96), type := 9, pos := "enc.go:279", after := #[{ on := 5, ground := .data }], guard := none }) (v := ?_) rfl (by kernel_rfl) (by kernel_rfl) (by kernel_rfl) (fun _ _ _ h => h) (Or.inl ⟨by rfl, ?_⟩) hS ?_
              rotate_left
              · (intro w' hS'; obtain ⟨-, e0, e1, e2, e3, e4, e5, e6, e7⟩ := hS'; go_simp) <;> with_reducible rfl
              try simp only [Act.put, List.setIfInBounds_toArray, List.set_cons_zero, List.set_cons_succ]
              refine wpAnyH_take (i := 7) (oi := { dst := some 98, op := .call { callee := .builtin .len, args := #[.tmp 97], argTypes := #[9] }, type := 3, pos := "enc.go:279", after := #[{ on := 6, ground := .data }], guard := none }) (v := ?_) rfl (by kernel_rfl) (by kernel_rfl) (by kernel_rfl) (fun _ _ _ h => h) (Or.inl ⟨by rfl, ?_⟩) hS ?_
              rotate_left
              · (intro w' hS'; obtain ⟨-, e0, e1, e2, e3, e4, e5, e6, e7⟩ := hS'; go_simp) <;> with_reducible rfl
              try simp only [Act.put, List.setIfInBounds_toArray, List.set_cons_zero, List.set_cons_succ]
              refine wpAnyH_ready (rs := [4]) (by kernel_rfl) (by simp) ?_
              refine AllReadyH.cons (o := { dst := some 95, op := .call { callee := .value (.func 12), args := #[.tmp 91, .tmp 94], argTypes := #[3, 3] }, type := 3, pos := "enc.go:279", after := #[{ on := 0, ground := .data }, { on := 3, ground := .data }], guard := none }) rfl (fun K' hK => ?_) AllReadyH.nil
              go_simp
              refine (HM0.out _ _ HS).mono ?_
              rintro en V3 ⟨m0x, rfl, hm0, hV3⟩
              subst V3
              go_wp2_with fail
              refine hK.out _ _ hS (fun _ => ?_)
              clear hK K'
              try simp only [Act.put, List.setIfInBounds_toArray, List.set_cons_zero, List.set_cons_succ]
              refine wpAnyH_ready (rs := [8]) (by kernel_rfl) (by simp) ?_
              refine AllReadyH.cons (o := { dst := some 99, op := .call { callee := .value (.func 12), args := #[.tmp 95, .tmp 98], argTypes := #[3, 3] }, type := 3, pos := "enc.go:279", after := #[{ on := 4, ground := .data }, { on := 7, ground := .data }, { on := 4, ground := .chain }], guard := none }) rfl (fun K' hK => ?_) AllReadyH.nil
              go_simp
              refine (HM1.out _ _ hm0).mono ?_
              rintro en V3 ⟨m1x, rfl, hm1, hV3⟩
              subst V3
              go_wp2_with fail
              refine hK.out _ _ hS (fun _ => ?_)
              clear hK K'
              try simp only [Act.put, List.setIfInBounds_toArray, List.set_cons_zero, List.set_cons_succ]
              refine wpAnyH_take (i := 9) (oi := { dst := some 5, op := .assign (.tmp 99), type := 3, pos := "enc.go:279", after := #[{ on := 8, ground := .data }, { on := 8, ground := .chain }, { on := 0, ground := .phase }, { on := 1, ground := .phase }, { on := 2, ground := .phase }, { on := 3, ground := .phase }, { on := 4, ground := .phase }, { on := 5, ground := .phase }, { on := 6, ground := .phase }, { on := 7, ground := .phase }, { on := 8, ground := .phase }], guard := none }) (v := ?_) rfl (by kernel_rfl) (by kernel_rfl) (by kernel_rfl) (fun _ _ _ h => h) (Or.inl ⟨by rfl, ?_⟩) hS ?_
              rotate_left
              · (intro w' hS'; obtain ⟨-, e0, e1, e2, e3, e4, e5, e6, e7⟩ := hS'; go_simp) <;> with_reducible rfl
              try simp only [Act.put, List.setIfInBounds_toArray, List.set_cons_zero, List.set_cons_succ]
              refine wpAnyH_done (by kernel_rfl) ?_ _
              go_wp2
              go_roundw
              case rel => exact ⟨j + 1, _, by omega, rfl, by go_num, hm1, Lib.hid hS.1⟩
              case measure => simp [intOf]; omega
            · have hlti : ¬ (j : Int) < (g.imps.length : Int) := by omega
              have HSZ : Hid (Sz m (P2 g)) := Lib.hid (HS.out.imp fun h => ⟨h.1, all_whole hlt h.2⟩)
              clear HS hlen hj hlt
              rename World => w2
              rename Int => m2
              have y : w2.cell? ⟨w.heap.size, 2, none⟩ = some (.slice p.A2 g.funcs.length p.c2) := (HBX.out _ HWB.out).2.2.1
              have HS0 : Hid (Sz m2 (P2 g ∧ ∀ x ∈ g.funcs.take 0, E2 x)) := Lib.hid (HSZ.out.imp fun h => ⟨h, by simp⟩)
              have hlen : (g.funcs.length : Int) ≤ 70 := by have := p0_len HP0.out; omega
              clear HSZ
              go_wp2_with fail
              clear y
              go_loopw [5, 104] (fun o i wr => ∃ (j : Nat) (m : Int), j ≤ g.funcs.length ∧ o = .int .i64 m ∧ i = .int .i64 (j : Int) ∧ Hid (Sz m (P2 g ∧ ∀ x ∈ g.funcs.take j, E2 x)) ∧ Hid (Below W.heap.size W wr)) (fun _ i _ => g.funcs.length - (intOf i).toNat)
              case atStart => exact ⟨0, _, Nat.zero_le _, rfl, rfl, HS0, HWB⟩
              case round =>
                clear HS0 HWB
                obtain ⟨j, m, hj, rfl, rfl, HS, HWB⟩ := hrel
                by_cases hlt : j < g.funcs.length
                · have hlti : (j : Int) < (g.funcs.length : Int) := by omega
                  obtain ⟨b, off, A1, c1, A2, c2, hA, h1⟩ := sm_fn HL.out.l2 j hlt
                  have HXI := Lib.hid (HG.out.funcs.1 _ (List.getElem_mem hlt))
                  have hw : Below w.heap.size w wr := HB.out.trans (HWB.out.mono HB.out.size)
                  obtain ⟨Q1, HQ1⟩ : ∃ Q1 : Prop, Hid (Q1 = ((P2 g ∧ ∀ x ∈ g.funcs.take j, E2 x) ∧ g.funcs[j].locals.length ≤ 3000)) := ⟨_, Lib.hid rfl⟩
                  have HM0 : Hid (∀ (V : World) (n0 : Int), Hid (Sz n0 (P2 g ∧ ∀ x ∈ g.funcs.take j, E2 x)) → Calls Try.prog 12 #[.int .i64 n0, .int .i64 (g.funcs[j].locals.length : Int)] V (OutIs V Q1)) := Lib.hid fun V n0 h => by
                    refine (more_any n0 _ V _ h.out HXI.out.2.1.2).mono ?_
                    rintro en V2 ⟨m2, e, h2, h3⟩
                    exact ⟨m2, e, Lib.hid (h2.imp (fun h => by rw [HQ1.out]; exact h)), h3⟩
                  have HM1 : Hid (∀ (V : World) (n0 : Int), Hid (Sz n0 Q1) → Below w.heap.size w V → Calls Try.prog 13 #[.int .i64 n0, .slice A2 g.funcs[j].body.length c2] V (OutIs V (P2 g ∧ ∀ x ∈ g.funcs.take (j + 1), E2 x))) := Lib.hid fun V n0 h hV => by
                    refine (bodySize_any n0 _ _ _ _ V _ h.out ((h1 V hV).2.2.2.2).sli.ins HXI.out.2.2.2 (fun y hy => (HXI.out.2.2.1 y hy).2)).mono ?_
                    rintro en V2 ⟨m2, e, h2, h3⟩
                    exact ⟨m2, e, Lib.hid (h2.imp (fun h => by rw [HQ1.out] at h; exact ⟨h.1.1.1, all_next hlt h.1.1.2 ⟨h.1.2, h.2⟩⟩)), h3⟩
                  obtain ⟨q0, q1, q2, _, _⟩ := h1 wr hw
                  rw [hA]
                  clear h1 hA HXI HQ1
                  generalize g.funcs[j] = x at *
                  have hbx : Below W.heap.size W (wr.alloc (.cells #[.int .i64 x.ty, .slice A1 x.locals.length c1, .slice A2 x.body.length c2] 55)) := HWB.out.trans ((Below.refl wr.heap.size wr).alloc (Nat.le_refl _) _ |>.mono HWB.out.size)
                  have z0 : (wr.alloc (.cells #[.int .i64 x.ty, .slice A1 x.locals.length c1, .slice A2 x.body.length c2] 55)).cell? ⟨wr.heap.size, 0, none⟩ = some (.int .i64 x.ty) := by simp
                  have z1 : (wr.alloc (.cells #[.int .i64 x.ty, .slice A1 x.locals.length c1, .slice A2 x.body.length c2] 55)).cell? ⟨wr.heap.size, 1, none⟩ = some (.slice A1 x.locals.length c1) := by simp
                  have z2 : (wr.alloc (.cells #[.int .i64 x.ty, .slice A1 x.locals.length c1, .slice A2 x.body.length c2] 55)).cell? ⟨wr.heap.size, 2, none⟩ = some (.slice A2 x.body.length c2) := by simp
                  go_upto_region 21 with fail
                  generalize wr.alloc (.cells #[.int .i64 x.ty, .slice A1 x.locals.length c1, .slice A2 x.body.length c2] 55) = V at *
                  generalize wr.heap.size = bx at *
                  clear hw q0 q1 q2
                  generalize x.locals.length = s0 at *
                  generalize x.body.length = s1 at *
                  have hS : Below W.heap.size W V.drew ∧ V.drew.cell? ⟨bx, 0, none⟩ = some (.int .i64 x.ty) ∧ V.drew.cell? ⟨bx, 1, none⟩ = some (.slice A1 s0 c1) ∧ V.drew.cell? ⟨bx, 2, none⟩ = some (.slice A2 s1 c2) := ⟨hbx.drew, z0, z1, z2⟩
                  clear hbx z0 z1 z2
                  go_wp2_with fail
                  refine wp_region_held_drew (S := fun V => Below W.heap.size W V ∧ V.cell? ⟨bx, 0, none⟩ = some (.int .i64 x.ty) ∧ V.cell? ⟨bx, 1, none⟩ = some (.slice A1 s0 c1) ∧ V.cell? ⟨bx, 2, none⟩ = some (.slice A2 s1 c2)) (by kernel_rfl) hS (fun hS => ?_)
                  generalize V.drew = V2 at *
                  refine wpAnyH_take (i := 0) (oi := { dst := some 108, op := .move (.tmp 5), type := 3, pos := "enc.go:282", after := #[], guard := none }) (v := ?_) rfl (by kernel_rfl) (by kernel_rfl) (by kernel_rfl) (fun _ _ _ h => h) (Or.inl ⟨by rfl, ?_⟩) hS ?_
                  rotate_left
                  · (intro w' hS'; obtain ⟨-, e0, e1, e2⟩ := hS'; go_simp) <;> with_reducible rfl
                  try simp only [Act.put, List.setIfInBounds_toArray, List.set_cons_zero, List.set_cons_succ]
                  refine wpAnyH_take (i := 1) (oi := { dst := some 109, op := .fieldAddr 55 (.tmp 11) 1, type := 0, pos := "enc.go:282", after := #[], guard := none }) (v := ?_) rfl (by kernel_rfl) (by kernel_rfl) (by kernel_rfl) (fun _ _ _ h => h) (Or.inl ⟨by rfl, ?_⟩) hS ?_
                  rotate_left
                  · (intro w' hS'; obtain ⟨-, e0, e1, e2⟩ := hS'; go_simp) <;> with_reducible rfl
                  try simp only [Act.put, List.setIfInBounds_toArray, List.set_cons_zero, List.set_cons_succ]
                  refine wpAnyH_take (i := 2) (oi := { dst := some 110, op := .load 28 (.tmp 109), type := 28, pos := "enc.go:282", after := #[{ on := 1, ground := .data }], guard := none }) (v := ?_) rfl (by kernel_rfl) (by kernel_rfl) (by kernel_rfl) (fun _ _ _ h => h) (Or.inl ⟨by rfl, ?_⟩) hS ?_
                  rotate_left
                  · (intro w' hS'; obtain ⟨-, e0, e1, e2⟩ := hS'; go_simp) <;> with_reducible rfl
                  try simp only [Act.put, List.setIfInBounds_toArray, List.set_cons_zero, List.set_cons_succ]
                  refine wpAnyH_take (i := 3) (oi := { dst := some 111, op := .call { callee := .builtin .len, args := #[.tmp 110], argTypes := #[28] }, type := 3, pos := "enc.go:282", after := #[{ on := 2, ground := .data }], guard := none }) (v := ?_) rfl (by kernel_rfl) (by kernel_rfl) (by kernel_rfl) (fun _ _ _ h => h) (Or.inl ⟨by rfl, ?_⟩) hS ?_
                  rotate_left
                  · (intro w' hS'; obtain ⟨-, e0, e1, e2⟩ := hS'; go_simp) <;> with_reducible rfl
                  try simp only [Act.put, List.setIfInBounds_toArray, List.set_cons_zero, List.set_cons_succ]
                  refine wpAnyH_take (i := 5) (oi := { dst := some 113, op := .fieldAddr 55 (.tmp 11) 2, type := 0, pos := "enc.go:282", after := #[], guard := none }) (v := ?_) rfl (by kernel_rfl) (by kernel_rfl) (by kernel_rfl) (fun _ _ _ h => h) (Or.inl ⟨by rfl, ?_⟩) hS ?_
                  rotate_left
                  · (intro w' hS'; obtain ⟨-, e0, e1, e2⟩ := hS'; go_simp) <;> with_reducible rfl
                  try simp only [Act.put, List.setIfInBounds_toArray, List.set_cons_zero, List.set_cons_succ]
                  refine wpAnyH_take (i := 6) (oi := { dst := some 114, op := .load 47 (.tmp 113), type := 47, pos := "enc.go:282", after := #[{ on := 5, ground := .data }], guard := none }) (v := ?_) rfl (by kernel_rfl) (by kernel_rfl) (by kernel_rfl) (fun _ _ _ h => h) (Or.inl ⟨by rfl, ?_⟩) hS ?_
                  rotate_left
                  · (intro w' hS'; obtain ⟨-, e0, e1, e2⟩ := hS'; go_simp) <;> with_reducible rfl
                  try simp only [Act.put, List.setIfInBounds_toArray, List.set_cons_zero, List.set_cons_succ]
                  refine wpAnyH_ready (rs := [4]) (by kernel_rfl) (by simp) ?_
                  refine AllReadyH.cons (o := { dst := some 112, op := .call { callee := .value (.func 12), args := #[.tmp 108, .tmp 111], argTypes := #[3, 3] }, type := 3, pos := "enc.go:282", after := #[{ on := 0, ground := .data }, { on := 3, ground := .data }], guard := none }) rfl (fun K' hK => ?_) AllReadyH.nil
                  go_simp
                  refine (HM0.out _ _ HS).mono ?_
                  rintro en V3 ⟨m0x, rfl, hm0, hV3⟩
                  subst V3
                  go_wp2_with fail
                  refine hK.out _ _ hS (fun _ => ?_)
                  clear hK K'
                  try simp only [Act.put, List.setIfInBounds_toArray, List.set_cons_zero, List.set_cons_succ]
                  refine wpAnyH_ready (rs := [7]) (by kernel_rfl) (by simp) ?_
                  refine AllReadyH.cons (o := { dst := some 115, op := .call { callee := .value (.func 13), args := #[.tmp 112, .tmp 114], argTypes := #[3, 47] }, type := 3, pos := "enc.go:282", after := #[{ on := 4, ground := .data }, { on := 6, ground := .data }, { on := 4, ground := .chain }], guard := none }) rfl (fun K' hK => ?_) AllReadyH.nil
                  go_simp
                  refine (HM1.out _ _ hm0 (HB.out.trans (hS.1.mono HB.out.size))).mono ?_
                  rintro en V3 ⟨m1x, rfl, hm1, hV3⟩
                  subst V3
                  go_wp2_with fail
                  refine hK.out _ _ hS (fun _ => ?_)
                  clear hK K'
                  try simp only [Act.put, List.setIfInBounds_toArray, List.set_cons_zero, List.set_cons_succ]
                  refine wpAnyH_take (i := 8) (oi := { dst := some 5, op := .assign (.tmp 115), type := 3, pos := "enc.go:282", after := #[{ on := 7, ground := .data }, { on := 7, ground := .chain }, { on := 0, ground := .phase }, { on := 1, ground := .phase }, { on := 2, ground := .phase }, { on := 3, ground := .phase }, { on := 4, ground := .phase }, { on := 5, ground := .phase }, { on := 6, ground := .phase }, { on := 7, ground := .phase }], guard := none }) (v := ?_) rfl (by kernel_rfl) (by kernel_rfl) (by kernel_rfl) (fun _ _ _ h => h) (Or.inl ⟨by rfl, ?_⟩) hS ?_
                  rotate_left
                  · (intro w' hS'; obtain ⟨-, e0, e1, e2⟩ := hS'; go_simp) <;> with_reducible rfl
                  try simp only [Act.put, List.setIfInBounds_toArray, List.set_cons_zero, List.set_cons_succ]
                  refine wpAnyH_done (by kernel_rfl) ?_ _
                  go_wp2
                  go_roundw
                  case rel => exact ⟨j + 1, _, by omega, rfl, by go_num, hm1, Lib.hid hS.1⟩
                  case measure => simp [intOf]; omega
                · have hlti : ¬ (j : Int) < (g.funcs.length : Int) := by omega
                  have HSZ : Hid (Sz m (P3 g)) := Lib.hid (HS.out.imp fun h => ⟨h.1, all_whole hlt h.2⟩)
                  clear HS hlen hj hlt
                  rename World => w3
                  rename Int => m3
                  have y : w3.cell? ⟨w.heap.size, 5, none⟩ = some (.slice p.A5 g.globs.length p.c5) := (HBX.out _ HWB.out).2.2.2.2.2.1
                  have HS0 : Hid (Sz m3 (P3 g ∧ ∀ x ∈ g.globs.take 0, E3 x)) := Lib.hid (HSZ.out.imp fun h => ⟨h, by simp⟩)
                  have hlen : (g.globs.length : Int) ≤ 70 := by have := p0_len HP0.out; omega
                  clear HSZ
                  go_wp2_with fail
                  clear y
                  go_loopw [5, 120] (fun o i wr => ∃ (j : Nat) (m : Int), j ≤ g.globs.length ∧ o = .int .i64 m ∧ i = .int .i64 (j : Int) ∧ Hid (Sz m (P3 g ∧ ∀ x ∈ g.globs.take j, E3 x)) ∧ Hid (Below W.heap.size W wr)) (fun _ i _ => g.globs.length - (intOf i).toNat)
                  case atStart => exact ⟨0, _, Nat.zero_le _, rfl, rfl, HS0, HWB⟩
                  case round =>
                    clear HS0 HWB
                    obtain ⟨j, m, hj, rfl, rfl, HS, HWB⟩ := hrel
                    by_cases hlt : j < g.globs.length
                    · have hlti : (j : Int) < (g.globs.length : Int) := by omega
                      obtain ⟨b, off, A1, c1, hA, h1⟩ := sm_glob HL.out.l5 j hlt
                      have HXI := Lib.hid (HG.out.globs.1 _ (List.getElem_mem hlt))
                      have hw : Below w.heap.size w wr := HB.out.trans (HWB.out.mono HB.out.size)
                      have HM0 : Hid (∀ (V : World) (n0 : Int), Hid (Sz n0 (P3 g ∧ ∀ x ∈ g.globs.take j, E3 x)) → Below w.heap.size w V → Calls Try.prog 13 #[.int .i64 n0, .slice A1 g.globs[j].init.length c1] V (OutIs V (P3 g ∧ ∀ x ∈ g.globs.take (j + 1), E3 x))) := Lib.hid fun V n0 h hV => by
                        refine (bodySize_any n0 _ _ _ _ V _ h.out ((h1 V hV).2.2.2).sli.ins HXI.out.2.2 (fun y hy => (HXI.out.2.1 y hy).2)).mono ?_
                        rintro en V2 ⟨m2, e, h2, h3⟩
                        exact ⟨m2, e, Lib.hid (h2.imp (fun h => ⟨h.1.1, all_next hlt h.1.2 h.2⟩)), h3⟩
                      obtain ⟨q0, q1, q2, _⟩ := h1 wr hw
                      rw [hA]
                      clear h1 hA HXI
                      generalize g.globs[j] = x at *
                      have hbx : Below W.heap.size W (wr.alloc (.cells #[.int .i64 x.ty, .bool x.mu, .slice A1 x.init.length c1] 65)) := HWB.out.trans ((Below.refl wr.heap.size wr).alloc (Nat.le_refl _) _ |>.mono HWB.out.size)
                      have z0 : (wr.alloc (.cells #[.int .i64 x.ty, .bool x.mu, .slice A1 x.init.length c1] 65)).cell? ⟨wr.heap.size, 0, none⟩ = some (.int .i64 x.ty) := by simp
                      have z1 : (wr.alloc (.cells #[.int .i64 x.ty, .bool x.mu, .slice A1 x.init.length c1] 65)).cell? ⟨wr.heap.size, 1, none⟩ = some (.bool x.mu) := by simp
                      have z2 : (wr.alloc (.cells #[.int .i64 x.ty, .bool x.mu, .slice A1 x.init.length c1] 65)).cell? ⟨wr.heap.size, 2, none⟩ = some (.slice A1 x.init.length c1) := by simp
                      go_upto_region 26 with fail
                      generalize wr.alloc (.cells #[.int .i64 x.ty, .bool x.mu, .slice A1 x.init.length c1] 65) = V at *
                      generalize wr.heap.size = bx at *
                      clear hw q0 q1 q2
                      generalize x.init.length = s0 at *
                      go_wp2_with fail
                      refine (HM0.out _ _ HS (HB.out.trans (hbx.mono HB.out.size))).mono ?_
                      rintro en V3 ⟨m0x, rfl, hm0, hV3⟩
                      subst V3
                      go_wp2
                      go_roundw
                      case rel => exact ⟨j + 1, _, by omega, rfl, by go_num, hm0, Lib.hid hbx⟩
                      case measure => simp [intOf]; omega
                    · have hlti : ¬ (j : Int) < (g.globs.length : Int) := by omega
                      have HSZ : Hid (Sz m (P4 g)) := Lib.hid (HS.out.imp fun h => ⟨h.1, all_whole hlt h.2⟩)
                      clear HS hlen hj hlt
                      rename World => w4
                      rename Int => m4
                      have y : w4.cell? ⟨w.heap.size, 6, none⟩ = some (.slice p.A6 g.expos.length p.c6) := (HBX.out _ HWB.out).2.2.2.2.2.2.1
                      have HS0 : Hid (Sz m4 (P4 g ∧ ∀ x ∈ g.expos.take 0, E4 x)) := Lib.hid (HSZ.out.imp fun h => ⟨h, by simp⟩)
                      have hlen : (g.expos.length : Int) ≤ 70 := by have := p0_len HP0.out; omega
                      clear HSZ
                      go_wp2_with fail
                      clear y
                      go_loopw [5, 132] (fun o i wr => ∃ (j : Nat) (m : Int), j ≤ g.expos.length ∧ o = .int .i64 m ∧ i = .int .i64 (j : Int) ∧ Hid (Sz m (P4 g ∧ ∀ x ∈ g.expos.take j, E4 x)) ∧ Hid (Below W.heap.size W wr)) (fun _ i _ => g.expos.length - (intOf i).toNat)
                      case atStart => exact ⟨0, _, Nat.zero_le _, rfl, rfl, HS0, HWB⟩
                      case round =>
                        clear HS0 HWB
                        obtain ⟨j, m, hj, rfl, rfl, HS, HWB⟩ := hrel
                        by_cases hlt : j < g.expos.length
                        · have hlti : (j : Int) < (g.expos.length : Int) := by omega
                          obtain ⟨b, off, hA, h1⟩ := sm_expo HL.out.l6 j hlt
                          have HXI := Lib.hid (HG.out.expos.1 _ (List.getElem_mem hlt))
                          have hw : Below w.heap.size w wr := HB.out.trans (HWB.out.mono HB.out.size)
                          have HM0 : Hid (∀ (V : World) (n0 : Int), Hid (Sz n0 (P4 g ∧ ∀ x ∈ g.expos.take j, E4 x)) → Calls Try.prog 12 #[.int .i64 n0, .int .i64 (g.expos[j].nm.size : Int)] V (OutIs V (P4 g ∧ ∀ x ∈ g.expos.take (j + 1), E4 x))) := Lib.hid fun V n0 h => by
                            refine (more_any n0 _ V _ h.out HXI.out.1).mono ?_
                            rintro en V2 ⟨m2, e, h2, h3⟩
                            exact ⟨m2, e, Lib.hid (h2.imp (fun h => ⟨h.1.1, all_next hlt h.1.2 h.2⟩)), h3⟩
                          obtain ⟨q0, q1, q2⟩ := h1 wr hw
                          rw [hA]
                          clear h1 hA HXI
                          generalize g.expos[j] = x at *
                          have hbx : Below W.heap.size W (wr.alloc (.cells #[.string x.nm, .int .i64 x.kind, .int .i64 x.idx] 67)) := HWB.out.trans ((Below.refl wr.heap.size wr).alloc (Nat.le_refl _) _ |>.mono HWB.out.size)
                          have z0 : (wr.alloc (.cells #[.string x.nm, .int .i64 x.kind, .int .i64 x.idx] 67)).cell? ⟨wr.heap.size, 0, none⟩ = some (.string x.nm) := by simp
                          have z1 : (wr.alloc (.cells #[.string x.nm, .int .i64 x.kind, .int .i64 x.idx] 67)).cell? ⟨wr.heap.size, 1, none⟩ = some (.int .i64 x.kind) := by simp
                          have z2 : (wr.alloc (.cells #[.string x.nm, .int .i64 x.kind, .int .i64 x.idx] 67)).cell? ⟨wr.heap.size, 2, none⟩ = some (.int .i64 x.idx) := by simp
                          go_upto_region 31 with fail
                          generalize wr.alloc (.cells #[.string x.nm, .int .i64 x.kind, .int .i64 x.idx] 67) = V at *
                          generalize wr.heap.size = bx at *
                          clear hw q0 q1 q2
                          go_wp2_with fail
                          refine (HM0.out _ _ HS).mono ?_
                          rintro en V3 ⟨m0x, rfl, hm0, hV3⟩
                          subst V3
                          go_wp2
                          go_roundw
                          case rel => exact ⟨j + 1, _, by omega, rfl, by go_num, hm0, Lib.hid hbx⟩
                          case measure => simp [intOf]; omega
                        · have hlti : ¬ (j : Int) < (g.expos.length : Int) := by omega
                          have HSZ : Hid (Sz m (P5 g)) := Lib.hid (HS.out.imp fun h => ⟨h.1, all_whole hlt h.2⟩)
                          clear HS hlen hj hlt
                          rename World => w5
                          rename Int => m5
                          have y : w5.cell? ⟨w.heap.size, 8, none⟩ = some (.slice p.A8 g.els.length p.c8) := (HBX.out _ HWB.out).2.2.2.2.2.2.2.2.1
                          have HS0 : Hid (Sz m5 (P5 g ∧ ∀ x ∈ g.els.take 0, E5 x)) := Lib.hid (HSZ.out.imp fun h => ⟨h, by simp⟩)
                          have hlen : (g.els.length : Int) ≤ 70 := by have := p0_len HP0.out; omega
                          clear HSZ
                          go_wp2_with fail
                          clear y
                          go_loopw [5, 145] (fun o i wr => ∃ (j : Nat) (m : Int), j ≤ g.els.length ∧ o = .int .i64 m ∧ i = .int .i64 (j : Int) ∧ Hid (Sz m (P5 g ∧ ∀ x ∈ g.els.take j, E5 x)) ∧ Hid (Below W.heap.size W wr)) (fun _ i _ => g.els.length - (intOf i).toNat)
                          case atStart => exact ⟨0, _, Nat.zero_le _, rfl, rfl, HS0, HWB⟩
                          case round =>
                            clear HS0 HWB
                            obtain ⟨j, m, hj, rfl, rfl, HS, HWB⟩ := hrel
                            by_cases hlt : j < g.els.length
                            · have hlti : (j : Int) < (g.els.length : Int) := by omega
                              obtain ⟨b, off, A1, c1, A2, c2, hA, h1⟩ := sm_el HL.out.l8 j hlt
                              have HXI := Lib.hid (HG.out.els.1 _ (List.getElem_mem hlt))
                              have hw : Below w.heap.size w wr := HB.out.trans (HWB.out.mono HB.out.size)
                              obtain ⟨Q1, HQ1⟩ : ∃ Q1 : Prop, Hid (Q1 = ((P5 g ∧ ∀ x ∈ g.els.take j, E5 x) ∧ g.els[j].fs.length ≤ 3000)) := ⟨_, Lib.hid rfl⟩
                              have HM0 : Hid (∀ (V : World) (n0 : Int), Hid (Sz n0 (P5 g ∧ ∀ x ∈ g.els.take j, E5 x)) → Calls Try.prog 12 #[.int .i64 n0, .int .i64 (g.els[j].fs.length : Int)] V (OutIs V Q1)) := Lib.hid fun V n0 h => by
                                refine (more_any n0 _ V _ h.out HXI.out.2.2.2).mono ?_
                                rintro en V2 ⟨m2, e, h2, h3⟩
                                exact ⟨m2, e, Lib.hid (h2.imp (fun h => by rw [HQ1.out]; exact h)), h3⟩
                              have HM1 : Hid (∀ (V : World) (n0 : Int), Hid (Sz n0 Q1) → Below w.heap.size w V → Calls Try.prog 13 #[.int .i64 n0, .slice A1 g.els[j].off.length c1] V (OutIs V (P5 g ∧ ∀ x ∈ g.els.take (j + 1), E5 x))) := Lib.hid fun V n0 h hV => by
                                refine (bodySize_any n0 _ _ _ _ V _ h.out ((h1 V hV).2.2.2.1).sli.ins HXI.out.2.1.2 (fun y hy => (HXI.out.2.1.1 y hy).2)).mono ?_
                                rintro en V2 ⟨m2, e, h2, h3⟩
                                exact ⟨m2, e, Lib.hid (h2.imp (fun h => by rw [HQ1.out] at h; exact ⟨h.1.1.1, all_next hlt h.1.1.2 ⟨h.1.2, h.2⟩⟩)), h3⟩
                              obtain ⟨q0, q1, q2, _, _⟩ := h1 wr hw
                              rw [hA]
                              clear h1 hA HXI HQ1
                              generalize g.els[j] = x at *
                              have hbx : Below W.heap.size W (wr.alloc (.cells #[.int .i64 x.mode, .slice A1 x.off.length c1, .slice A2 x.fs.length c2] 49)) := HWB.out.trans ((Below.refl wr.heap.size wr).alloc (Nat.le_refl _) _ |>.mono HWB.out.size)
                              have z0 : (wr.alloc (.cells #[.int .i64 x.mode, .slice A1 x.off.length c1, .slice A2 x.fs.length c2] 49)).cell? ⟨wr.heap.size, 0, none⟩ = some (.int .i64 x.mode) := by simp
                              have z1 : (wr.alloc (.cells #[.int .i64 x.mode, .slice A1 x.off.length c1, .slice A2 x.fs.length c2] 49)).cell? ⟨wr.heap.size, 1, none⟩ = some (.slice A1 x.off.length c1) := by simp
                              have z2 : (wr.alloc (.cells #[.int .i64 x.mode, .slice A1 x.off.length c1, .slice A2 x.fs.length c2] 49)).cell? ⟨wr.heap.size, 2, none⟩ = some (.slice A2 x.fs.length c2) := by simp
                              go_upto_region 36 with fail
                              generalize wr.alloc (.cells #[.int .i64 x.mode, .slice A1 x.off.length c1, .slice A2 x.fs.length c2] 49) = V at *
                              generalize wr.heap.size = bx at *
                              clear hw q0 q1 q2
                              generalize x.fs.length = s0 at *
                              generalize x.off.length = s1 at *
                              have hS : Below W.heap.size W V.drew ∧ V.drew.cell? ⟨bx, 0, none⟩ = some (.int .i64 x.mode) ∧ V.drew.cell? ⟨bx, 1, none⟩ = some (.slice A1 s1 c1) ∧ V.drew.cell? ⟨bx, 2, none⟩ = some (.slice A2 s0 c2) := ⟨hbx.drew, z0, z1, z2⟩
                              clear hbx z0 z1 z2
                              go_wp2_with fail
                              refine wp_region_held_drew (S := fun V => Below W.heap.size W V ∧ V.cell? ⟨bx, 0, none⟩ = some (.int .i64 x.mode) ∧ V.cell? ⟨bx, 1, none⟩ = some (.slice A1 s1 c1) ∧ V.cell? ⟨bx, 2, none⟩ = some (.slice A2 s0 c2)) (by kernel_rfl) hS (fun hS => ?_)
                              generalize V.drew = V2 at *
                              refine wpAnyH_take (i := 0) (oi := { dst := some 149, op := .move (.tmp 5), type := 3, pos := "enc.go:291", after := #[], guard := none }) (v := ?_) rfl (by kernel_rfl) (by kernel_rfl) (by kernel_rfl) (fun _ _ _ h => h) (Or.inl ⟨by rfl, ?_⟩) hS ?_
                              rotate_left
                              · (intro w' hS'; obtain ⟨-, e0, e1, e2⟩ := hS'; go_simp) <;> with_reducible rfl
                              try simp only [Act.put, List.setIfInBounds_toArray, List.set_cons_zero, List.set_cons_succ]
                              refine wpAnyH_take (i := 1) (oi := { dst := some 150, op := .fieldAddr 49 (.tmp 17) 2, type := 0, pos := "enc.go:291", after := #[], guard := none }) (v := ?_) rfl (by kernel_rfl) (by kernel_rfl) (by kernel_rfl) (fun _ _ _ h => h) (Or.inl ⟨by rfl, ?_⟩) hS ?_
                              rotate_left
                              · (intro w' hS'; obtain ⟨-, e0, e1, e2⟩ := hS'; go_simp) <;> with_reducible rfl
                              try simp only [Act.put, List.setIfInBounds_toArray, List.set_cons_zero, List.set_cons_succ]
                              refine wpAnyH_take (i := 2) (oi := { dst := some 151, op := .load 28 (.tmp 150), type := 28, pos := "enc.go:291", after := #[{ on := 1, ground := .data }], guard := none }) (v := ?_) rfl (by kernel_rfl) (by kernel_rfl) (by kernel_rfl) (fun _ _ _ h => h) (Or.inl ⟨by rfl, ?_⟩) hS ?_
                              rotate_left
                              · (intro w' hS'; obtain ⟨-, e0, e1, e2⟩ := hS'; go_simp) <;> with_reducible rfl
                              try simp only [Act.put, List.setIfInBounds_toArray, List.set_cons_zero, List.set_cons_succ]
                              refine wpAnyH_take (i := 3) (oi := { dst := some 152, op := .call { callee := .builtin .len, args := #[.tmp 151], argTypes := #[28] }, type := 3, pos := "enc.go:291", after := #[{ on := 2, ground := .data }], guard := none }) (v := ?_) rfl (by kernel_rfl) (by kernel_rfl) (by kernel_rfl) (fun _ _ _ h => h) (Or.inl ⟨by rfl, ?_⟩) hS ?_
                              rotate_left
                              · (intro w' hS'; obtain ⟨-, e0, e1, e2⟩ := hS'; go_simp) <;> with_reducible rfl
                              try simp only [Act.put, List.setIfInBounds_toArray, List.set_cons_zero, List.set_cons_succ]
                              refine wpAnyH_take (i := 5) (oi := { dst := some 154, op := .fieldAddr 49 (.tmp 17) 1, type := 0, pos := "enc.go:291", after := #[], guard := none }) (v := ?_) rfl (by kernel_rfl) (by kernel_rfl) (by kernel_rfl) (fun _ _ _ h => h) (Or.inl ⟨by rfl, ?_⟩) hS ?_
                              rotate_left
                              · (intro w' hS'; obtain ⟨-, e0, e1, e2⟩ := hS'; go_simp) <;> with_reducible rfl
                              try simp only [Act.put, List.setIfInBounds_toArray, List.set_cons_zero, List.set_cons_succ]
                              refine wpAnyH_take (i := 6) (oi := { dst := some 155, op := .load 47 (.tmp 154), type := 47, pos := "enc.go:291", after := #[{ on := 5, ground := .data }], guard := none }) (v := ?_) rfl (by kernel_rfl) (by kernel_rfl) (by kernel_rfl) (fun _ _ _ h => h) (Or.inl ⟨by rfl, ?_⟩) hS ?_
                              rotate_left
                              · (intro w' hS'; obtain ⟨-, e0, e1, e2⟩ := hS'; go_simp) <;> with_reducible rfl
                              try simp only [Act.put, List.setIfInBounds_toArray, List.set_cons_zero, List.set_cons_succ]
                              refine wpAnyH_ready (rs := [4]) (by kernel_rfl) (by simp) ?_
                              refine AllReadyH.cons (o := { dst := some 153, op := .call { callee := .value (.func 12), args := #[.tmp 149, .tmp 152], argTypes := #[3, 3] }, type := 3, pos := "enc.go:291", after := #[{ on := 0, ground := .data }, { on := 3, ground := .data }], guard := none }) rfl (fun K' hK => ?_) AllReadyH.nil
                              go_simp
                              refine (HM0.out _ _ HS).mono ?_
                              rintro en V3 ⟨m0x, rfl, hm0, hV3⟩
                              subst V3
                              go_wp2_with fail
                              refine hK.out _ _ hS (fun _ => ?_)
                              clear hK K'
                              try simp only [Act.put, List.setIfInBounds_toArray, List.set_cons_zero, List.set_cons_succ]
                              refine wpAnyH_ready (rs := [7]) (by kernel_rfl) (by simp) ?_
                              refine AllReadyH.cons (o := { dst := some 156, op := .call { callee := .value (.func 13), args := #[.tmp 153, .tmp 155], argTypes := #[3, 47] }, type := 3, pos := "enc.go:291", after := #[{ on := 4, ground := .data }, { on := 6, ground := .data }, { on := 4, ground := .chain }], guard := none }) rfl (fun K' hK => ?_) AllReadyH.nil
                              go_simp
                              refine (HM1.out _ _ hm0 (HB.out.trans (hS.1.mono HB.out.size))).mono ?_
                              rintro en V3 ⟨m1x, rfl, hm1, hV3⟩
                              subst V3
                              go_wp2_with fail
                              refine hK.out _ _ hS (fun _ => ?_)
                              clear hK K'
                              try simp only [Act.put, List.setIfInBounds_toArray, List.set_cons_zero, List.set_cons_succ]
                              refine wpAnyH_take (i := 8) (oi := { dst := some 5, op := .assign (.tmp 156), type := 3, pos := "enc.go:291", after := #[{ on := 7, ground := .data }, { on := 7, ground := .chain }, { on := 0, ground := .phase }, { on := 1, ground := .phase }, { on := 2, ground := .phase }, { on := 3, ground := .phase }, { on := 4, ground := .phase }, { on := 5, ground := .phase }, { on := 6, ground := .phase }, { on := 7, ground := .phase }], guard := none }) (v := ?_) rfl (by kernel_rfl) (by kernel_rfl) (by kernel_rfl) (fun _ _ _ h => h) (Or.inl ⟨by rfl, ?_⟩) hS ?_
                              rotate_left
                              · (intro w' hS'; obtain ⟨-, e0, e1, e2⟩ := hS'; go_simp) <;> with_reducible rfl
                              try simp only [Act.put, List.setIfInBounds_toArray, List.set_cons_zero, List.set_cons_succ]
                              refine wpAnyH_done (by kernel_rfl) ?_ _
                              go_wp2
                              go_roundw
                              case rel => exact ⟨j + 1, _, by omega, rfl, by go_num, hm1, Lib.hid hS.1⟩
                              case measure => simp [intOf]; omega
                            · have hlti : ¬ (j : Int) < (g.els.length : Int) := by omega
                              have HSZ : Hid (Sz m (P6 g)) := Lib.hid (HS.out.imp fun h => ⟨h.1, all_whole hlt h.2⟩)
                              clear HS hlen hj hlt
                              rename World => w6
                              rename Int => m6
                              have y : w6.cell? ⟨w.heap.size, 10, none⟩ = some (.slice p.A10 g.dats.length p.c10) := (HBX.out _ HWB.out).2.2.2.2.2.2.2.2.2.2.1
                              have HS0 : Hid (Sz m6 (P6 g ∧ ∀ x ∈ g.dats.take 0, E6 x)) := Lib.hid (HSZ.out.imp fun h => ⟨h, by simp⟩)
                              have hlen : (g.dats.length : Int) ≤ 70 := by have := p0_len HP0.out; omega
                              clear HSZ
                              go_wp2_with fail
                              clear y
                              go_loopw [5, 161] (fun o i wr => ∃ (j : Nat) (m : Int), j ≤ g.dats.length ∧ o = .int .i64 m ∧ i = .int .i64 (j : Int) ∧ Hid (Sz m (P6 g ∧ ∀ x ∈ g.dats.take j, E6 x)) ∧ Hid (Below W.heap.size W wr)) (fun _ i _ => g.dats.length - (intOf i).toNat)
                              case atStart => exact ⟨0, _, Nat.zero_le _, rfl, rfl, HS0, HWB⟩
                              case round =>
                                clear HS0 HWB
                                obtain ⟨j, m, hj, rfl, rfl, HS, HWB⟩ := hrel
                                by_cases hlt : j < g.dats.length
                                · have hlti : (j : Int) < (g.dats.length : Int) := by omega
                                  obtain ⟨b, off, A1, c1, A2, c2, hA, h1⟩ := sm_dat HL.out.l10 j hlt
                                  have HXI := Lib.hid (HG.out.dats.1 _ (List.getElem_mem hlt))
                                  have hw : Below w.heap.size w wr := HB.out.trans (HWB.out.mono HB.out.size)
                                  obtain ⟨Q1, HQ1⟩ : ∃ Q1 : Prop, Hid (Q1 = ((P6 g ∧ ∀ x ∈ g.dats.take j, E6 x) ∧ g.dats[j].bs.length ≤ 3000)) := ⟨_, Lib.hid rfl⟩
                                  have HM0 : Hid (∀ (V : World) (n0 : Int), Hid (Sz n0 (P6 g ∧ ∀ x ∈ g.dats.take j, E6 x)) → Calls Try.prog 12 #[.int .i64 n0, .int .i64 (g.dats[j].bs.length : Int)] V (OutIs V Q1)) := Lib.hid fun V n0 h => by
                                    refine (more_any n0 _ V _ h.out HXI.out.2.2).mono ?_
                                    rintro en V2 ⟨m2, e, h2, h3⟩
                                    exact ⟨m2, e, Lib.hid (h2.imp (fun h => by rw [HQ1.out]; exact h)), h3⟩
                                  have HM1 : Hid (∀ (V : World) (n0 : Int), Hid (Sz n0 Q1) → Below w.heap.size w V → Calls Try.prog 13 #[.int .i64 n0, .slice A1 g.dats[j].off.length c1] V (OutIs V (P6 g ∧ ∀ x ∈ g.dats.take (j + 1), E6 x))) := Lib.hid fun V n0 h hV => by
                                    refine (bodySize_any n0 _ _ _ _ V _ h.out ((h1 V hV).2.2.2.1).sli.ins HXI.out.2.1.2 (fun y hy => (HXI.out.2.1.1 y hy).2)).mono ?_
                                    rintro en V2 ⟨m2, e, h2, h3⟩
                                    exact ⟨m2, e, Lib.hid (h2.imp (fun h => by rw [HQ1.out] at h; exact ⟨h.1.1.1, all_next hlt h.1.1.2 ⟨h.1.2, h.2⟩⟩)), h3⟩
                                  obtain ⟨q0, q1, q2, _, _⟩ := h1 wr hw
                                  rw [hA]
                                  clear h1 hA HXI HQ1
                                  generalize g.dats[j] = x at *
                                  have hbx : Below W.heap.size W (wr.alloc (.cells #[.int .i64 x.mode, .slice A1 x.off.length c1, .slice A2 x.bs.length c2] 52)) := HWB.out.trans ((Below.refl wr.heap.size wr).alloc (Nat.le_refl _) _ |>.mono HWB.out.size)
                                  have z0 : (wr.alloc (.cells #[.int .i64 x.mode, .slice A1 x.off.length c1, .slice A2 x.bs.length c2] 52)).cell? ⟨wr.heap.size, 0, none⟩ = some (.int .i64 x.mode) := by simp
                                  have z1 : (wr.alloc (.cells #[.int .i64 x.mode, .slice A1 x.off.length c1, .slice A2 x.bs.length c2] 52)).cell? ⟨wr.heap.size, 1, none⟩ = some (.slice A1 x.off.length c1) := by simp
                                  have z2 : (wr.alloc (.cells #[.int .i64 x.mode, .slice A1 x.off.length c1, .slice A2 x.bs.length c2] 52)).cell? ⟨wr.heap.size, 2, none⟩ = some (.slice A2 x.bs.length c2) := by simp
                                  go_upto_region 41 with fail
                                  generalize wr.alloc (.cells #[.int .i64 x.mode, .slice A1 x.off.length c1, .slice A2 x.bs.length c2] 52) = V at *
                                  generalize wr.heap.size = bx at *
                                  clear hw q0 q1 q2
                                  generalize x.bs.length = s0 at *
                                  generalize x.off.length = s1 at *
                                  have hS : Below W.heap.size W V.drew ∧ V.drew.cell? ⟨bx, 0, none⟩ = some (.int .i64 x.mode) ∧ V.drew.cell? ⟨bx, 1, none⟩ = some (.slice A1 s1 c1) ∧ V.drew.cell? ⟨bx, 2, none⟩ = some (.slice A2 s0 c2) := ⟨hbx.drew, z0, z1, z2⟩
                                  clear hbx z0 z1 z2
                                  go_wp2_with fail
                                  refine wp_region_held_drew (S := fun V => Below W.heap.size W V ∧ V.cell? ⟨bx, 0, none⟩ = some (.int .i64 x.mode) ∧ V.cell? ⟨bx, 1, none⟩ = some (.slice A1 s1 c1) ∧ V.cell? ⟨bx, 2, none⟩ = some (.slice A2 s0 c2)) (by kernel_rfl) hS (fun hS => ?_)
                                  generalize V.drew = V2 at *
                                  refine wpAnyH_take (i := 0) (oi := { dst := some 165, op := .move (.tmp 5), type := 3, pos := "enc.go:294", after := #[], guard := none }) (v := ?_) rfl (by kernel_rfl) (by kernel_rfl) (by kernel_rfl) (fun _ _ _ h => h) (Or.inl ⟨by rfl, ?_⟩) hS ?_
                                  rotate_left
                                  · (intro w' hS'; obtain ⟨-, e0, e1, e2⟩ := hS'; go_simp) <;> with_reducible rfl
                                  try simp only [Act.put, List.setIfInBounds_toArray, List.set_cons_zero, List.set_cons_succ]
                                  refine wpAnyH_take (i := 1) (oi := { dst := some 166, op := .fieldAddr 52 (.tmp 19) 2, type := 0, pos := "enc.go:294", after := #[], guard := none }) (v := ?_) rfl (by kernel_rfl) (by kernel_rfl) (by kernel_rfl) (fun _ _ _ h => h) (Or.inl ⟨by rfl, ?_⟩) hS ?_
                                  rotate_left
                                  · (intro w' hS'; obtain ⟨-, e0, e1, e2⟩ := hS'; go_simp) <;> with_reducible rfl
                                  try simp only [Act.put, List.setIfInBounds_toArray, List.set_cons_zero, List.set_cons_succ]
                                  refine wpAnyH_take (i := 2) (oi := { dst := some 167, op := .load 50 (.tmp 166), type := 50, pos := "enc.go:294", after := #[{ on := 1, ground := .data }], guard := none }) (v := ?_) rfl (by kernel_rfl) (by kernel_rfl) (by kernel_rfl) (fun _ _ _ h => h) (Or.inl ⟨by rfl, ?_⟩) hS ?_
                                  rotate_left
                                  · (intro w' hS'; obtain ⟨-, e0, e1, e2⟩ := hS'; go_simp) <;> with_reducible rfl
                                  try simp only [Act.put, List.setIfInBounds_toArray, List.set_cons_zero, List.set_cons_succ]
                                  refine wpAnyH_take (i := 3) (oi := { dst := some 168, op := .call { callee := .builtin .len, args := #[.tmp 167], argTypes := #[50] }, type := 3, pos := "enc.go:294", after := #[{ on := 2, ground := .data }], guard := none }) (v := ?_) rfl (by kernel_rfl) (by kernel_rfl) (by kernel_rfl) (fun _ _ _ h => h) (Or.inl ⟨by rfl, ?_⟩) hS ?_
                                  rotate_left
                                  · (intro w' hS'; obtain ⟨-, e0, e1, e2⟩ := hS'; go_simp) <;> with_reducible rfl
                                  try simp only [Act.put, List.setIfInBounds_toArray, List.set_cons_zero, List.set_cons_succ]
                                  refine wpAnyH_take (i := 5) (oi := { dst := some 170, op := .fieldAddr 52 (.tmp 19) 1, type := 0, pos := "enc.go:294", after := #[], guard := none }) (v := ?_) rfl (by kernel_rfl) (by kernel_rfl) (by kernel_rfl) (fun _ _ _ h => h) (Or.inl ⟨by rfl, ?_⟩) hS ?_
                                  rotate_left
                                  · (intro w' hS'; obtain ⟨-, e0, e1, e2⟩ := hS'; go_simp) <;> with_reducible rfl
                                  try simp only [Act.put, List.setIfInBounds_toArray, List.set_cons_zero, List.set_cons_succ]
                                  refine wpAnyH_take (i := 6) (oi := { dst := some 171, op := .load 47 (.tmp 170), type := 47, pos := "enc.go:294", after := #[{ on := 5, ground := .data }], guard := none }) (v := ?_) rfl (by kernel_rfl) (by kernel_rfl) (by kernel_rfl) (fun _ _ _ h => h) (Or.inl ⟨by rfl, ?_⟩) hS ?_
                                  rotate_left
                                  · (intro w' hS'; obtain ⟨-, e0, e1, e2⟩ := hS'; go_simp) <;> with_reducible rfl
                                  try simp only [Act.put, List.setIfInBounds_toArray, List.set_cons_zero, List.set_cons_succ]
                                  refine wpAnyH_ready (rs := [4]) (by kernel_rfl) (by simp) ?_
                                  refine AllReadyH.cons (o := { dst := some 169, op := .call { callee := .value (.func 12), args := #[.tmp 165, .tmp 168], argTypes := #[3, 3] }, type := 3, pos := "enc.go:294", after := #[{ on := 0, ground := .data }, { on := 3, ground := .data }], guard := none }) rfl (fun K' hK => ?_) AllReadyH.nil
                                  go_simp
                                  refine (HM0.out _ _ HS).mono ?_
                                  rintro en V3 ⟨m0x, rfl, hm0, hV3⟩
                                  subst V3
                                  go_wp2_with fail
                                  refine hK.out _ _ hS (fun _ => ?_)
                                  clear hK K'
                                  try simp only [Act.put, List.setIfInBounds_toArray, List.set_cons_zero, List.set_cons_succ]
                                  refine wpAnyH_ready (rs := [7]) (by kernel_rfl) (by simp) ?_
                                  refine AllReadyH.cons (o := { dst := some 172, op := .call { callee := .value (.func 13), args := #[.tmp 169, .tmp 171], argTypes := #[3, 47] }, type := 3, pos := "enc.go:294", after := #[{ on := 4, ground := .data }, { on := 6, ground := .data }, { on := 4, ground := .chain }], guard := none }) rfl (fun K' hK => ?_) AllReadyH.nil
                                  go_simp
                                  refine (HM1.out _ _ hm0 (HB.out.trans (hS.1.mono HB.out.size))).mono ?_
                                  rintro en V3 ⟨m1x, rfl, hm1, hV3⟩
                                  subst V3
                                  go_wp2_with fail
                                  refine hK.out _ _ hS (fun _ => ?_)
                                  clear hK K'
                                  try simp only [Act.put, List.setIfInBounds_toArray, List.set_cons_zero, List.set_cons_succ]
                                  refine wpAnyH_take (i := 8) (oi := { dst := some 5, op := .assign (.tmp 172), type := 3, pos := "enc.go:294", after := #[{ on := 7, ground := .data }, { on := 7, ground := .chain }, { on := 0, ground := .phase }, { on := 1, ground := .phase }, { on := 2, ground := .phase }, { on := 3, ground := .phase }, { on := 4, ground := .phase }, { on := 5, ground := .phase }, { on := 6, ground := .phase }, { on := 7, ground := .phase }], guard := none }) (v := ?_) rfl (by kernel_rfl) (by kernel_rfl) (by kernel_rfl) (fun _ _ _ h => h) (Or.inl ⟨by rfl, ?_⟩) hS ?_
                                  rotate_left
                                  · (intro w' hS'; obtain ⟨-, e0, e1, e2⟩ := hS'; go_simp) <;> with_reducible rfl
                                  try simp only [Act.put, List.setIfInBounds_toArray, List.set_cons_zero, List.set_cons_succ]
                                  refine wpAnyH_done (by kernel_rfl) ?_ _
                                  go_wp2
                                  go_roundw
                                  case rel => exact ⟨j + 1, _, by omega, rfl, by go_num, hm1, Lib.hid hS.1⟩
                                  case measure => simp [intOf]; omega
                                · have hlti : ¬ (j : Int) < (g.dats.length : Int) := by omega
                                  have HSZ : Hid (Sz m (P7 g)) := Lib.hid (HS.out.imp fun h => ⟨h.1, all_whole hlt h.2⟩)
                                  clear HS hlen hj hlt
                                  rename World => w7
                                  rename Int => m7
                                  have y : w7.cell? ⟨w.heap.size, 11, none⟩ = some (.slice p.A11 g.cuss.length p.c11) := (HBX.out _ HWB.out).2.2.2.2.2.2.2.2.2.2.2
                                  have HS0 : Hid (Sz m7 (P7 g ∧ ∀ x ∈ g.cuss.take 0, E7 x)) := Lib.hid (HSZ.out.imp fun h => ⟨h, by simp⟩)
                                  have hlen : (g.cuss.length : Int) ≤ 70 := by have := p0_len HP0.out; omega
                                  clear HSZ
                                  go_wp2_with fail
                                  clear y
                                  go_loopw [5, 177] (fun o i wr => ∃ (j : Nat) (m : Int), j ≤ g.cuss.length ∧ o = .int .i64 m ∧ i = .int .i64 (j : Int) ∧ Hid (Sz m (P7 g ∧ ∀ x ∈ g.cuss.take j, E7 x)) ∧ Hid (Below W.heap.size W wr)) (fun _ i _ => g.cuss.length - (intOf i).toNat)
                                  case atStart => exact ⟨0, _, Nat.zero_le _, rfl, rfl, HS0, HWB⟩
                                  case round =>
                                    clear HS0 HWB
                                    obtain ⟨j, m, hj, rfl, rfl, HS, HWB⟩ := hrel
                                    by_cases hlt : j < g.cuss.length
                                    · have hlti : (j : Int) < (g.cuss.length : Int) := by omega
                                      obtain ⟨b, off, A1, c1, hA, h1⟩ := sm_cus HL.out.l11 j hlt
                                      have HXI := Lib.hid (HG.out.cuss.1 _ (List.getElem_mem hlt))
                                      have hw : Below w.heap.size w wr := HB.out.trans (HWB.out.mono HB.out.size)
                                      obtain ⟨Q1, HQ1⟩ : ∃ Q1 : Prop, Hid (Q1 = ((P7 g ∧ ∀ x ∈ g.cuss.take j, E7 x) ∧ g.cuss[j].1.size ≤ 3000)) := ⟨_, Lib.hid rfl⟩
                                      have HM0 : Hid (∀ (V : World) (n0 : Int), Hid (Sz n0 (P7 g ∧ ∀ x ∈ g.cuss.take j, E7 x)) → Calls Try.prog 12 #[.int .i64 n0, .int .i64 (g.cuss[j].1.size : Int)] V (OutIs V Q1)) := Lib.hid fun V n0 h => by
                                        refine (more_any n0 _ V _ h.out HXI.out.1).mono ?_
                                        rintro en V2 ⟨m2, e, h2, h3⟩
                                        exact ⟨m2, e, Lib.hid (h2.imp (fun h => by rw [HQ1.out]; exact h)), h3⟩
                                      have HM1 : Hid (∀ (V : World) (n0 : Int), Hid (Sz n0 Q1) → Calls Try.prog 12 #[.int .i64 n0, .int .i64 (g.cuss[j].2.length : Int)] V (OutIs V (P7 g ∧ ∀ x ∈ g.cuss.take (j + 1), E7 x))) := Lib.hid fun V n0 h => by
                                        refine (more_any n0 _ V _ h.out HXI.out.2).mono ?_
                                        rintro en V2 ⟨m2, e, h2, h3⟩
                                        exact ⟨m2, e, Lib.hid (h2.imp (fun h => by rw [HQ1.out] at h; exact ⟨h.1.1.1, all_next hlt h.1.1.2 ⟨h.1.2, h.2⟩⟩)), h3⟩
                                      obtain ⟨q0, q1, _⟩ := h1 wr hw
                                      rw [hA]
                                      clear h1 hA HXI HQ1
                                      generalize g.cuss[j] = x at *
                                      have hbx : Below W.heap.size W (wr.alloc (.cells #[.string x.1, .slice A1 x.2.length c1] 69)) := HWB.out.trans ((Below.refl wr.heap.size wr).alloc (Nat.le_refl _) _ |>.mono HWB.out.size)
                                      have z0 : (wr.alloc (.cells #[.string x.1, .slice A1 x.2.length c1] 69)).cell? ⟨wr.heap.size, 0, none⟩ = some (.string x.1) := by simp
                                      have z1 : (wr.alloc (.cells #[.string x.1, .slice A1 x.2.length c1] 69)).cell? ⟨wr.heap.size, 1, none⟩ = some (.slice A1 x.2.length c1) := by simp
                                      go_upto_region 46 with fail
                                      generalize wr.alloc (.cells #[.string x.1, .slice A1 x.2.length c1] 69) = V at *
                                      generalize wr.heap.size = bx at *
                                      clear hw q0 q1
                                      generalize x.2.length = s1 at *
                                      have hS : Below W.heap.size W V.drew ∧ V.drew.cell? ⟨bx, 0, none⟩ = some (.string x.1) ∧ V.drew.cell? ⟨bx, 1, none⟩ = some (.slice A1 s1 c1) := ⟨hbx.drew, z0, z1⟩
                                      clear hbx z0 z1
                                      go_wp2_with fail
                                      refine wp_region_held_drew (S := fun V => Below W.heap.size W V ∧ V.cell? ⟨bx, 0, none⟩ = some (.string x.1) ∧ V.cell? ⟨bx, 1, none⟩ = some (.slice A1 s1 c1)) (by kernel_rfl) hS (fun hS => ?_)
                                      generalize V.drew = V2 at *
                                      refine wpAnyH_take (i := 0) (oi := { dst := some 181, op := .move (.tmp 5), type := 3, pos := "enc.go:297", after := #[], guard := none }) (v := ?_) rfl (by kernel_rfl) (by kernel_rfl) (by kernel_rfl) (fun _ _ _ h => h) (Or.inl ⟨by rfl, ?_⟩) hS ?_
                                      rotate_left
                                      · (intro w' hS'; obtain ⟨-, e0, e1⟩ := hS'; go_simp) <;> with_reducible rfl
                                      try simp only [Act.put, List.setIfInBounds_toArray, List.set_cons_zero, List.set_cons_succ]
                                      refine wpAnyH_take (i := 1) (oi := { dst := some 182, op := .fieldAddr 69 (.tmp 21) 0, type := 0, pos := "enc.go:297", after := #[], guard := none }) (v := ?_) rfl (by kernel_rfl) (by kernel_rfl) (by kernel_rfl) (fun _ _ _ h => h) (Or.inl ⟨by rfl, ?_⟩) hS ?_
                                      rotate_left
                                      · (intro w' hS'; obtain ⟨-, e0, e1⟩ := hS'; go_simp) <;> with_reducible rfl
                                      try simp only [Act.put, List.setIfInBounds_toArray, List.set_cons_zero, List.set_cons_succ]
                                      refine wpAnyH_take (i := 2) (oi := { dst := some 183, op := .load 9 (.tmp 182), type := 9, pos := "enc.go:297", after := #[{ on := 1, ground := .data }], guard := none }) (v := ?_) rfl (by kernel_rfl) (by kernel_rfl) (by kernel_rfl) (fun _ _ _ h => h) (Or.inl ⟨by rfl, ?_⟩) hS ?_
                                      rotate_left
                                      · (intro w' hS'; obtain ⟨-, e0, e1⟩ := hS'; go_simp) <;> with_reducible rfl
                                      try simp only [Act.put, List.setIfInBounds_toArray, List.set_cons_zero, List.set_cons_succ]
                                      refine wpAnyH_take (i := 3) (oi := { dst := some 184, op := .call { callee := .builtin .len, args := #[.tmp 183], argTypes := #[9] }, type := 3, pos := "enc.go:297", after := #[{ on := 2, ground := .data }], guard := none }) (v := ?_) rfl (by kernel_rfl) (by kernel_rfl) (by kernel_rfl) (fun _ _ _ h => h) (Or.inl ⟨by rfl, ?_⟩) hS ?_
                                      rotate_left
                                      · (intro w' hS'; obtain ⟨-, e0, e1⟩ := hS'; go_simp) <;> with_reducible rfl
                                      try simp only [Act.put, List.setIfInBounds_toArray, List.set_cons_zero, List.set_cons_succ]
                                      refine wpAnyH_take (i := 5) (oi := { dst := some 186, op := .fieldAddr 69 (.tmp 21) 1, type := 0, pos := "enc.go:297", after := #[], guard := none }) (v := ?_) rfl (by kernel_rfl) (by kernel_rfl) (by kernel_rfl) (fun _ _ _ h => h) (Or.inl ⟨by rfl, ?_⟩) hS ?_
                                      rotate_left
                                      · (intro w' hS'; obtain ⟨-, e0, e1⟩ := hS'; go_simp) <;> with_reducible rfl
                                      try simp only [Act.put, List.setIfInBounds_toArray, List.set_cons_zero, List.set_cons_succ]
                                      refine wpAnyH_take (i := 6) (oi := { dst := some 187, op := .load 50 (.tmp 186), type := 50, pos := "enc.go:297", after := #[{ on := 5, ground := .data }], guard := none }) (v := ?_) rfl (by kernel_rfl) (by kernel_rfl) (by kernel_rfl) (fun _ _ _ h => h) (Or.inl ⟨by rfl, ?_⟩) hS ?_
                                      rotate_left
                                      · (intro w' hS'; obtain ⟨-, e0, e1⟩ := hS'; go_simp) <;> with_reducible rfl
                                      try simp only [Act.put, List.setIfInBounds_toArray, List.set_cons_zero, List.set_cons_succ]
                                      refine wpAnyH_take (i := 7) (oi := { dst := some 188, op := .call { callee := .builtin .len, args := #[.tmp 187], argTypes := #[50] }, type := 3, pos := "enc.go:297", after := #[{ on := 6, ground := .data }], guard := none }) (v := ?_) rfl (by kernel_rfl) (by kernel_rfl) (by kernel_rfl) (fun _ _ _ h => h) (Or.inl ⟨by rfl, ?_⟩) hS ?_
                                      rotate_left
                                      · (intro w' hS'; obtain ⟨-, e0, e1⟩ := hS'; go_simp) <;> with_reducible rfl
                                      try simp only [Act.put, List.setIfInBounds_toArray, List.set_cons_zero, List.set_cons_succ]
                                      refine wpAnyH_ready (rs := [4]) (by kernel_rfl) (by simp) ?_
                                      refine AllReadyH.cons (o := { dst := some 185, op := .call { callee := .value (.func 12), args := #[.tmp 181, .tmp 184], argTypes := #[3, 3] }, type := 3, pos := "enc.go:297", after := #[{ on := 0, ground := .data }, { on := 3, ground := .data }], guard := none }) rfl (fun K' hK => ?_) AllReadyH.nil
                                      go_simp
                                      refine (HM0.out _ _ HS).mono ?_
                                      rintro en V3 ⟨m0x, rfl, hm0, hV3⟩
                                      subst V3
                                      go_wp2_with fail
                                      refine hK.out _ _ hS (fun _ => ?_)
                                      clear hK K'
                                      try simp only [Act.put, List.setIfInBounds_toArray, List.set_cons_zero, List.set_cons_succ]
                                      refine wpAnyH_ready (rs := [8]) (by kernel_rfl) (by simp) ?_
                                      refine AllReadyH.cons (o := { dst := some 189, op := .call { callee := .value (.func 12), args := #[.tmp 185, .tmp 188], argTypes := #[3, 3] }, type := 3, pos := "enc.go:297", after := #[{ on := 4, ground := .data }, { on := 7, ground := .data }, { on := 4, ground := .chain }], guard := none }) rfl (fun K' hK => ?_) AllReadyH.nil
                                      go_simp
                                      refine (HM1.out _ _ hm0).mono ?_
                                      rintro en V3 ⟨m1x, rfl, hm1, hV3⟩
                                      subst V3
                                      go_wp2_with fail
                                      refine hK.out _ _ hS (fun _ => ?_)
                                      clear hK K'
                                      try simp only [Act.put, List.setIfInBounds_toArray, List.set_cons_zero, List.set_cons_succ]
                                      refine wpAnyH_take (i := 9) (oi := { dst := some 5, op := .assign (.tmp 189), type := 3, pos := "enc.go:297", after := #[{ on := 8, ground := .data }, { on := 8, ground := .chain }, { on := 0, ground := .phase }, { on := 1, ground := .phase }, { on := 2, ground := .phase }, { on := 3, ground := .phase }, { on := 4, ground := .phase }, { on := 5, ground := .phase }, { on := 6, ground := .phase }, { on := 7, ground := .phase }, { on := 8, ground := .phase }], guard := none }) (v := ?_) rfl (by kernel_rfl) (by kernel_rfl) (by kernel_rfl) (fun _ _ _ h => h) (Or.inl ⟨by rfl, ?_⟩) hS ?_
                                      rotate_left
                                      · (intro w' hS'; obtain ⟨-, e0, e1⟩ := hS'; go_simp) <;> with_reducible rfl
                                      try simp only [Act.put, List.setIfInBounds_toArray, List.set_cons_zero, List.set_cons_succ]
                                      refine wpAnyH_done (by kernel_rfl) ?_ _
                                      go_wp2
                                      go_roundw
                                      case rel => exact ⟨j + 1, _, by omega, rfl, by go_num, hm1, Lib.hid hS.1⟩
                                      case measure => simp [intOf]; omega
                                    · have hlti : ¬ (j : Int) < (g.cuss.length : Int) := by omega
                                      have HSZ : Hid (Sz m (P8 g)) := Lib.hid (HS.out.imp fun h => ⟨h.1, all_whole hlt h.2⟩)
                                      clear HS hlen hj hlt
                                      rename World => w8
                                      rename Int => m8
                                      have HF : Hid (0 ≤ m8 → P8 g) := Lib.hid fun h => (HSZ.out.resolve_left (by omega)).2.2
                                      clear HSZ
                                      go_wp2
                                      go_ret
                                      exact ⟨_, rfl, by simpa using HF.out, HB.out.trans (HWB.out.mono HB.out.size)⟩
end Go.Proofs.Ytlbbnnljclndkaa.Sh
