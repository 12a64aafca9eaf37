/-
  CtxLk1: ctx: there, bounds, table, memory, and the methods of looker that call nothing that loops. No condition. (Written by wip/tools/genctxlk1.py.)
-/
import Derived.Test.YtdcolpmmojiffaaQCtxLk0
import Derived.Deep.RegionHeld
namespace Go.Proofs.Ytdcolpmmojiffaa.Cx
open Go.RowKit Leb
open _root_.Go.Proofs.Ytdcolpmmojiffaa.Mod

set_option maxRecDepth 100000 in
set_option maxHeartbeats 2000000 in
theorem there_any (k : Int) (n : Nat) (w : World) : Calls Try.prog 63 #[.int .i64 k, .int .i64 (n : Int)] w fun en w' => en = .returned (.bool (inB k n)) ∧ w' = w := by
  unfold inB
  by_cases h0 : 0 ≤ k <;> by_cases h1 : k < (n : Int)
  all_goals
    go_enter Try.func63, Try.ntmps63
    go_wp2
    go_ret
    exact ⟨by simp [h0, h1], rfl⟩
theorem thereI_any (k n : Int) (w : World) : Calls Try.prog 63 #[.int .i64 k, .int .i64 n] w fun en w' => en = .returned (.bool (decide (0 ≤ k) && decide (k < n))) ∧ w' = w := by
  by_cases h0 : 0 ≤ k <;> by_cases h1 : k < n
  all_goals
    go_enter Try.func63, Try.ntmps63
    go_wp2
    go_ret
    exact ⟨by simp [h0, h1], rfl⟩
set_option maxRecDepth 100000 in
set_option maxHeartbeats 2000000 in
theorem bounds_any (mn : Int) (cp : Bool) (mx gr dn : Int) (w : World) : Calls Try.prog 61 #[.agg #[.int .i64 mn, .bool cp, .int .i64 mx], .int .i64 gr, .int .i64 dn] w (NumIs w (bndE mn cp mx gr dn)) := by
  by_cases h0 : mn < 0
  · have hE : bndE mn cp mx gr dn = 5 := by simp [bndE, h0]
    rw [hE]
    go_enter Try.func61, Try.ntmps61
    go_wp2
    go_ret
    exact ⟨rfl, (Below.refl _ _).alloc (Nat.le_refl _) _⟩
  by_cases h1 : gr < mn
  · have hE : bndE mn cp mx gr dn = 5 := by simp [bndE, h0, h1]
    rw [hE]
    go_enter Try.func61, Try.ntmps61
    go_wp2
    go_ret
    exact ⟨rfl, (Below.refl _ _).alloc (Nat.le_refl _) _⟩
  cases cp with
  | false =>
    by_cases h2 : dn < mn
    · have hE : bndE mn false mx gr dn = 4 := by simp [bndE, h0, h1, h2]
      rw [hE]
      go_enter Try.func61, Try.ntmps61
      go_wp2
      go_ret
      exact ⟨rfl, (Below.refl _ _).alloc (Nat.le_refl _) _⟩
    · have hE : bndE mn false mx gr dn = 0 := by simp [bndE, h0, h1, h2]
      rw [hE]
      go_enter Try.func61, Try.ntmps61
      go_wp2
      go_ret
      exact ⟨rfl, (Below.refl _ _).alloc (Nat.le_refl _) _⟩
  | true =>
    by_cases h3 : gr < mx
    · have hE : bndE mn true mx gr dn = 5 := by simp [bndE, h0, h1, h3]
      rw [hE]
      go_enter Try.func61, Try.ntmps61
      go_wp2
      go_ret
      exact ⟨rfl, (Below.refl _ _).alloc (Nat.le_refl _) _⟩
    by_cases h4 : mx < mn
    · have hE : bndE mn true mx gr dn = 5 := by simp [bndE, h0, h1, h3, h4]
      rw [hE]
      go_enter Try.func61, Try.ntmps61
      go_wp2
      go_ret
      exact ⟨rfl, (Below.refl _ _).alloc (Nat.le_refl _) _⟩
    by_cases h2 : dn < mn
    · have hE : bndE mn true mx gr dn = 4 := by simp [bndE, h0, h1, h2, h3, h4]
      rw [hE]
      go_enter Try.func61, Try.ntmps61
      go_wp2
      go_ret
      exact ⟨rfl, (Below.refl _ _).alloc (Nat.le_refl _) _⟩
    · have hE : bndE mn true mx gr dn = 0 := by simp [bndE, h0, h1, h2, h3, h4]
      rw [hE]
      go_enter Try.func61, Try.ntmps61
      go_wp2
      go_ret
      exact ⟨rfl, (Below.refl _ _).alloc (Nat.le_refl _) _⟩
set_option maxRecDepth 100000 in
set_option maxHeartbeats 2000000 in
theorem table_any (x : GLim) (w : World) : Calls Try.prog 46 #[.agg #[.int .i64 x.1, .bool x.2.1, .int .i64 x.2.2]] w (NumIs w (tabE x)) := by
  obtain ⟨mn, cp, mx⟩ := x
  go_enter Try.func46, Try.ntmps46
  go_wp2_with fail
  refine (bounds_any mn cp mx 9223372036854775807 64 _).mono ?_
  rintro en w1 ⟨rfl, hb⟩
  go_wp2
  go_ret
  exact ⟨rfl, ((Below.refl _ _).alloc (Nat.le_refl _) _).trans (hb.mono (by simp))⟩
set_option maxRecDepth 100000 in
set_option maxHeartbeats 2000000 in
theorem memory_any (x : GLim) (w : World) : Calls Try.prog 47 #[.agg #[.int .i64 x.1, .bool x.2.1, .int .i64 x.2.2]] w (NumIs w (memE x)) := by
  obtain ⟨mn, cp, mx⟩ := x
  go_enter Try.func47, Try.ntmps47
  go_wp2_with fail
  refine (bounds_any mn cp mx 65536 4 _).mono ?_
  rintro en w1 ⟨rfl, hb⟩
  go_wp2
  go_ret
  exact ⟨rfl, ((Below.refl _ _).alloc (Nat.le_refl _) _).trans (hb.mono (by simp))⟩
section
variable (q : Plc) (c : GCtx) (w : World)
set_option maxRecDepth 100000 in
set_option maxHeartbeats 2000000 in
theorem typeOf_any (t : Int) : Calls Try.prog 60 #[.agg #[.slice q.A0 c.types.length q.d0, .slice q.A1 c.funcs.length q.d1, .slice q.A2 c.globs.length q.d2, .slice q.A3 c.tabs.length q.d3, .slice q.A4 c.mems.length q.d4, .int .i64 c.hosts, .int .i64 c.vars, .int .i64 c.els, .int .i64 c.dats, .bool c.counted], .int .i64 t] w (NumIs w (tyE c t)) := by
  cases hb : inB t c.types.length with
  | false =>
    have hE : tyE c t = 7 := by simp [tyE, hb]
    rw [hE]
    go_enter Try.func60, Try.ntmps60
    go_wp2_with fail
    refine (there_any t c.types.length _).mono ?_
    rintro en w1 ⟨rfl, rfl⟩
    go_wp2
    go_ret
    exact ⟨rfl, (Below.refl _ _).alloc (Nat.le_refl _) _⟩
  | true =>
    have hE : tyE c t = 0 := by simp [tyE, hb]
    rw [hE]
    go_enter Try.func60, Try.ntmps60
    go_wp2_with fail
    refine (there_any t c.types.length _).mono ?_
    rintro en w1 ⟨rfl, rfl⟩
    go_wp2
    go_ret
    exact ⟨rfl, (Below.refl _ _).alloc (Nat.le_refl _) _⟩
set_option maxRecDepth 100000 in
set_option maxHeartbeats 2000000 in
theorem typed_any (ty : Int) (A1 : Option Addr) (n1 c1 : Nat) (A2 : Option Addr) (n2 c2 : Nat) : Calls Try.prog 44 #[.agg #[.slice q.A0 c.types.length q.d0, .slice q.A1 c.funcs.length q.d1, .slice q.A2 c.globs.length q.d2, .slice q.A3 c.tabs.length q.d3, .slice q.A4 c.mems.length q.d4, .int .i64 c.hosts, .int .i64 c.vars, .int .i64 c.els, .int .i64 c.dats, .bool c.counted], .agg #[.int .i64 ty, .slice A1 n1 c1, .slice A2 n2 c2]] w (NumIs w (tyE c ty)) := by
  go_enter Try.func44, Try.ntmps44
  go_wp2_with fail
  refine (typeOf_any q c _ ty).mono ?_
  rintro en w1 ⟨rfl, hb⟩
  go_wp2
  go_ret
  exact ⟨rfl, (((Below.refl _ _).alloc (Nat.le_refl _) _).alloc (by simp) _).trans (hb.mono (by simp; omega))⟩
set_option maxRecDepth 100000 in
set_option maxHeartbeats 2000000 in
theorem imported_any (x : GImp) : Calls Try.prog 42 #[.agg #[.slice q.A0 c.types.length q.d0, .slice q.A1 c.funcs.length q.d1, .slice q.A2 c.globs.length q.d2, .slice q.A3 c.tabs.length q.d3, .slice q.A4 c.mems.length q.d4, .int .i64 c.hosts, .int .i64 c.vars, .int .i64 c.els, .int .i64 c.dats, .bool c.counted], .agg #[.string x.md, .string x.nm, .int .i64 x.kind, .int .i64 x.ty, .int .i64 x.lim.1, .bool x.lim.2.1, .int .i64 x.lim.2.2, .bool x.mu]] w (NumIs w (impE c x)) := by
  obtain ⟨md, nm, kind, ty, ⟨mn, cp, mx⟩, mu⟩ := x
  by_cases h0 : kind = 0
  · subst h0
    go_enter Try.func42, Try.ntmps42
    go_wp2_with fail
    refine (typeOf_any q c _ ty).mono ?_
    rintro en w1 ⟨rfl, hb⟩
    go_wp2
    go_ret
    exact ⟨by simp [impE], (((Below.refl _ _).alloc (Nat.le_refl _) _).alloc (by simp) _).trans (hb.mono (by simp; omega))⟩
  by_cases h1 : kind = 1
  · subst h1
    go_enter Try.func42, Try.ntmps42
    go_wp2_with fail
    refine (table_any (mn, cp, mx) _).mono ?_
    rintro en w1 ⟨rfl, hb⟩
    go_wp2
    go_ret
    exact ⟨by simp [impE], (((Below.refl _ _).alloc (Nat.le_refl _) _).alloc (by simp) _).trans (hb.mono (by simp; omega))⟩
  by_cases h2 : kind = 2
  · subst h2
    go_enter Try.func42, Try.ntmps42
    go_wp2_with fail
    refine (memory_any (mn, cp, mx) _).mono ?_
    rintro en w1 ⟨rfl, hb⟩
    go_wp2
    go_ret
    exact ⟨by simp [impE], (((Below.refl _ _).alloc (Nat.le_refl _) _).alloc (by simp) _).trans (hb.mono (by simp; omega))⟩
  · go_enter Try.func42, Try.ntmps42
    go_wp2
    go_ret
    exact ⟨by simp [impE, h0, h1, h2], (((Below.refl _ _).alloc (Nat.le_refl _) _).alloc (by simp) _)⟩
set_option maxRecDepth 100000 in
set_option maxHeartbeats 2000000 in
theorem single_any : Calls Try.prog 48 #[.agg #[.slice q.A0 c.types.length q.d0, .slice q.A1 c.funcs.length q.d1, .slice q.A2 c.globs.length q.d2, .slice q.A3 c.tabs.length q.d3, .slice q.A4 c.mems.length q.d4, .int .i64 c.hosts, .int .i64 c.vars, .int .i64 c.els, .int .i64 c.dats, .bool c.counted]] w (NumIs w (oneE c)) := by
  by_cases h1 : (1 : Int) < (c.tabs.length : Int)
  · have hE : oneE c = 3 := by unfold oneE; rw [if_pos (by omega)]
    rw [hE]
    go_enter Try.func48, Try.ntmps48
    go_wp2
    go_ret
    exact ⟨rfl, (Below.refl _ _).alloc (Nat.le_refl _) _⟩
  by_cases h2 : (1 : Int) < (c.mems.length : Int)
  · have hE : oneE c = 8 := by unfold oneE; rw [if_neg (by omega), if_pos (by omega)]
    rw [hE]
    go_enter Try.func48, Try.ntmps48
    go_wp2
    go_ret
    exact ⟨rfl, (Below.refl _ _).alloc (Nat.le_refl _) _⟩
  · have hE : oneE c = 0 := by unfold oneE; rw [if_neg (by omega), if_neg (by omega)]
    rw [hE]
    go_enter Try.func48, Try.ntmps48
    go_wp2
    go_ret
    exact ⟨rfl, (Below.refl _ _).alloc (Nat.le_refl _) _⟩
set_option maxRecDepth 100000 in
set_option maxHeartbeats 2000000 in
theorem many_any (k : Int) : Calls Try.prog 64 #[.agg #[.slice q.A0 c.types.length q.d0, .slice q.A1 c.funcs.length q.d1, .slice q.A2 c.globs.length q.d2, .slice q.A3 c.tabs.length q.d3, .slice q.A4 c.mems.length q.d4, .int .i64 c.hosts, .int .i64 c.vars, .int .i64 c.els, .int .i64 c.dats, .bool c.counted], .int .i64 k] w (NumIs w (manyN c k)) := by
  by_cases h0 : k = 0
  · subst h0
    go_enter Try.func64, Try.ntmps64
    go_wp2
    go_ret
    exact ⟨by simp [manyN], (Below.refl _ _).alloc (Nat.le_refl _) _⟩
  by_cases h1 : k = 1
  · subst h1
    go_enter Try.func64, Try.ntmps64
    go_wp2
    go_ret
    exact ⟨by simp [manyN], (Below.refl _ _).alloc (Nat.le_refl _) _⟩
  by_cases h2 : k = 2
  · subst h2
    go_enter Try.func64, Try.ntmps64
    go_wp2
    go_ret
    exact ⟨by simp [manyN], (Below.refl _ _).alloc (Nat.le_refl _) _⟩
  by_cases h3 : k = 3
  · subst h3
    go_enter Try.func64, Try.ntmps64
    go_wp2
    go_ret
    exact ⟨by simp [manyN], (Below.refl _ _).alloc (Nat.le_refl _) _⟩
  · go_enter Try.func64, Try.ntmps64
    go_wp2
    go_ret
    exact ⟨by simp [manyN, h0, h1, h2, h3], (Below.refl _ _).alloc (Nat.le_refl _) _⟩
set_option maxRecDepth 100000 in
set_option maxHeartbeats 2000000 in
theorem entry_any (f : Int) : Calls Try.prog 67 #[.agg #[.slice q.A0 c.types.length q.d0, .slice q.A1 c.funcs.length q.d1, .slice q.A2 c.globs.length q.d2, .slice q.A3 c.tabs.length q.d3, .slice q.A4 c.mems.length q.d4, .int .i64 c.hosts, .int .i64 c.vars, .int .i64 c.els, .int .i64 c.dats, .bool c.counted], .int .i64 f] w (NumIs w (entE c f)) := by
  by_cases h0 : f = -1
  · subst h0
    have hE : entE c (-1) = 0 := by simp [entE]
    rw [hE]
    go_enter Try.func67, Try.ntmps67
    go_wp2
    go_ret
    exact ⟨rfl, (Below.refl _ _).alloc (Nat.le_refl _) _⟩
  cases hb : inB f c.funcs.length with
  | false =>
    have hE : entE c f = 7 := by simp [entE, h0, hb]
    rw [hE]
    go_enter Try.func67, Try.ntmps67
    go_wp2_with fail
    refine (there_any f c.funcs.length _).mono ?_
    rintro en w1 ⟨rfl, rfl⟩
    go_wp2
    go_ret
    exact ⟨rfl, (Below.refl _ _).alloc (Nat.le_refl _) _⟩
  | true =>
    have hE : entE c f = 0 := by simp [entE, hb]
    rw [hE]
    go_enter Try.func67, Try.ntmps67
    go_wp2_with fail
    refine (there_any f c.funcs.length _).mono ?_
    rintro en w1 ⟨rfl, rfl⟩
    go_wp2
    go_ret
    exact ⟨rfl, (Below.refl _ _).alloc (Nat.le_refl _) _⟩
end
end Go.Proofs.Ytdcolpmmojiffaa.Cx
