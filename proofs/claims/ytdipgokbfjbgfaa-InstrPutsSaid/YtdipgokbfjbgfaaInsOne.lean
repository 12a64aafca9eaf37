/-
  InsOne: trammelref06.One: the instruction at a place, or the first error. Conditions: the slice leads to bytes, at most 10000000.
-/
import Derived.Test.YtdipgokbfjbgfaaInsOneA
import Derived.Test.YtdipgokbfjbgfaaInsOneB
import Derived.Test.YtdipgokbfjbgfaaInsOneC
import Derived.Test.YtdipgokbfjbgfaaInsOneD
namespace Go.Proofs.Ytdipgokbfjbgfaa.Ins
open Go.RowKit Leb Typ

set_option maxHeartbeats 1000000 in
set_option maxRecDepth 100000 in
theorem rone_over (A : Option Addr) (len c p : Nat) (w : World) (h : len ≤ p) : Calls Try.prog 29 #[.slice A len c, .int .i64 (p : Int)] w (OneW w (zeroIns, 0, 1)) := by
  have hi : (len : Int) ≤ (p : Int) := by omega
  go_enter Try.func29, Try.ntmps29
  go_wp2
  refine bodyPost_ret (v := .tuple #[.agg #[.int .i64 0, .int .i64 0, .int .i64 0, .int .i64 0, .slice none 0 0], .int .i64 0, .int .i64 1]) (by simp [results, Try.results29, go_sem]) rfl ?_
  exact ⟨none, 0, 0, rfl, rfl, OwnI.nil _ _, (or_of w 25).below⟩
theorem roneW_any (A : Option Addr) (l : List Nat) (c p : Nat) (w : World) (hb : Bytes w w.heap.size A l) (hlc : l.length ≤ c) (hl : l.length ≤ 10000000) : Calls Try.prog 29 #[.slice A l.length c, .int .i64 (p : Int)] w (OneW w (oneRes l p)) := by
  by_cases hp : l.length ≤ p
  · have hR : oneRes l p = (zeroIns, 0, 1) := by unfold oneRes; rw [if_pos hp]
    rw [hR]
    exact rone_over A l.length c p w hp
  · obtain ⟨b, off, rfl, hblk, hcs⟩ := hb.2 (by omega)
    have hc := hcs p (by omega)
    have hg : l.getD p 0 = l[p]'(by omega) := by rw [List.getD_eq_getElem?_getD, List.getElem?_eq_getElem (by omega)]; rfl
    rw [← hg] at hc
    by_cases hq : ∃ qs, pat (opOf l p) = some (some qs)
    · obtain ⟨qs, hq⟩ := hq
      have one : ∀ P : Part → Prop, (∀ r ∈ qs, P r) → ∀ qs', pat (opOf l p) = some (some qs') → ∀ r ∈ qs', P r := fun P h qs' h' r hr => by
        rw [hq] at h'
        simp only [Option.some.injEq] at h'
        subst h'
        exact h r hr
      rcases pat_class _ _ hq with h | h | h | h
      · exact rone_runA b off c p _ l w _ rfl (by omega) hlc hl hb rfl hc hblk (Lib.hid (one _ h))
      · exact rone_runB b off c p _ l w _ rfl (by omega) hlc hl hb rfl hc hblk (Lib.hid (one _ h))
      · exact rone_runC b off c p _ l w _ rfl (by omega) hlc hl hb rfl hc hblk (Lib.hid (one _ h))
      · exact rone_runD b off c p _ l w _ rfl (by omega) hlc hl hb rfl hc hblk (Lib.hid (one _ h))
    · exact rone_runA b off c p _ l w _ rfl (by omega) hlc hl hb rfl hc hblk (Lib.hid fun qs h => absurd ⟨qs, h⟩ hq)
theorem rone_any (A : Option Addr) (l : List Nat) (c p : Nat) (w : World) (hb : Bytes w w.heap.size A l) (hlc : l.length ≤ c) (hl : l.length ≤ 10000000) : Calls Try.prog 29 #[.slice A l.length c, .int .i64 (p : Int)] w (One3 w (oneRes l p)) :=
  (roneW_any A l c p w hb hlc hl).mono fun _ _ h => h.three
end Go.Proofs.Ytdipgokbfjbgfaa.Ins
