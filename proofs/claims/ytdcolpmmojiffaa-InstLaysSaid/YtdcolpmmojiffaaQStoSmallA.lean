/-
  StoSmallA: trammel/trammellaw13.small: whether a store isn't too great for a look. No condition. (Written by wip/tools/genstosmall.py.)
-/
import Derived.Test.YtdcolpmmojiffaaQStoSame
namespace Go.Proofs.Ytdcolpmmojiffaa.Sto
open Go.RowKit Leb Typ

def smallA (g : GSt) : Bool := decide (g.mem.length ≤ 196608) && decide (g.tab.length ≤ 100) && decide (g.glo.length ≤ 100) && decide (g.els.length ≤ 100) && decide (g.dat.length ≤ 100)
theorem smallA_iff (g : GSt) : smallA g = true ↔ g.mem.length ≤ 196608 ∧ g.tab.length ≤ 100 ∧ g.glo.length ≤ 100 ∧ g.els.length ≤ 100 ∧ g.dat.length ≤ 100 := by
  unfold smallA
  simp only [Bool.and_eq_true, decide_eq_true_eq, and_assoc]
set_option maxRecDepth 100000 in
set_option maxHeartbeats 8000000 in
theorem smallA_any (p : PSt) (g : GSt) (w : World) : Calls Try.prog 6 #[.agg #[.slice p.A0 g.mem.length p.c0, .int .i64 g.cap, .slice p.A2 g.tab.length p.c2, .slice p.A3 g.glo.length p.c3, .slice p.A4 g.els.length p.c4, .slice p.A5 g.dat.length p.c5]] w (Ret w (.bool (smallA g))) := by
  have HB := Lib.hid (below_one (Below.refl w.heap.size w) (.cells #[.slice p.A0 g.mem.length p.c0, .int .i64 g.cap, .slice p.A2 g.tab.length p.c2, .slice p.A3 g.glo.length p.c3, .slice p.A4 g.els.length p.c4, .slice p.A5 g.dat.length p.c5] 27))
  obtain ⟨k0, k1, k2, k3, k4, k5⟩ := (boxs_new w p g).cells
  generalize hsb : smallA g = sb
  have HSB := Lib.hid hsb
  clear hsb
  go_enter Try.func6, Try.ntmps6
  go_upto_region 1 with fail
  generalize w.alloc (.cells #[.slice p.A0 g.mem.length p.c0, .int .i64 g.cap, .slice p.A2 g.tab.length p.c2, .slice p.A3 g.glo.length p.c3, .slice p.A4 g.els.length p.c4, .slice p.A5 g.dat.length p.c5] 27) = W at *
  by_cases h0 : g.mem.length ≤ 196608
  case neg =>
    have h0' : ¬ (g.mem.length : Int) ≤ 196608 := by omega
    have hr : smallA g = false := by unfold smallA; rw [decide_eq_false h0]; rfl
    obtain rfl := HSB.out.symm.trans hr
    go_wp2
    go_ret
    exact ⟨rfl, HB.out⟩
  case pos =>
  have h0' : (g.mem.length : Int) ≤ 196608 := by omega
  by_cases h1 : g.tab.length ≤ 100
  case neg =>
    have h1' : ¬ (g.tab.length : Int) ≤ 100 := by omega
    have hr : smallA g = false := by unfold smallA; rw [decide_eq_true h0, decide_eq_false h1]; rfl
    obtain rfl := HSB.out.symm.trans hr
    go_wp2
    go_ret
    exact ⟨rfl, HB.out⟩
  case pos =>
  have h1' : (g.tab.length : Int) ≤ 100 := by omega
  by_cases h2 : g.glo.length ≤ 100
  case neg =>
    have h2' : ¬ (g.glo.length : Int) ≤ 100 := by omega
    have hr : smallA g = false := by unfold smallA; rw [decide_eq_true h0, decide_eq_true h1, decide_eq_false h2]; rfl
    obtain rfl := HSB.out.symm.trans hr
    go_wp2
    go_ret
    exact ⟨rfl, HB.out⟩
  case pos =>
  have h2' : (g.glo.length : Int) ≤ 100 := by omega
  by_cases h3 : g.els.length ≤ 100
  case neg =>
    have h3' : ¬ (g.els.length : Int) ≤ 100 := by omega
    have hr : smallA g = false := by unfold smallA; rw [decide_eq_true h0, decide_eq_true h1, decide_eq_true h2, decide_eq_false h3]; rfl
    obtain rfl := HSB.out.symm.trans hr
    go_wp2
    go_ret
    exact ⟨rfl, HB.out⟩
  case pos =>
  have h3' : (g.els.length : Int) ≤ 100 := by omega
  by_cases h4 : g.dat.length ≤ 100
  case neg =>
    have h4' : ¬ (g.dat.length : Int) ≤ 100 := by omega
    have hr : smallA g = false := by unfold smallA; rw [decide_eq_true h0, decide_eq_true h1, decide_eq_true h2, decide_eq_true h3, decide_eq_false h4]; rfl
    obtain rfl := HSB.out.symm.trans hr
    go_wp2
    go_ret
    exact ⟨rfl, HB.out⟩
  case pos =>
  have h4' : (g.dat.length : Int) ≤ 100 := by omega
  have hr : smallA g = true := by unfold smallA; rw [decide_eq_true h0, decide_eq_true h1, decide_eq_true h2, decide_eq_true h3, decide_eq_true h4]; rfl
  obtain rfl := HSB.out.symm.trans hr
  go_wp2
  go_ret
  exact ⟨rfl, HB.out⟩
end Go.Proofs.Ytdcolpmmojiffaa.Sto
