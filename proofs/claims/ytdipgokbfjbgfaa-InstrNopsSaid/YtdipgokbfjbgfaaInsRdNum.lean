/-
  instr's reader: its methods number, signed, block: what each comes to, whatever the rest of the bytes is. Conditions: the reader's cells, what the slice from its place on is.
-/
import Derived.Test.YtdipgokbfjbgfaaInsRd
import Derived.Test.YtdipgokbfjbgfaaTypTells
import Derived.Test.YtdipgokbfjbgfaaTypOwnBlock
import Derived.Deep.RegionHeld3
import Derived.Deep.RegionHeldLaw
namespace Go.Proofs.Ytdipgokbfjbgfaa.Ins
open Go.RowKit Leb Typ

set_option maxRecDepth 100000 in
theorem slice_at (A : Option Addr) (l : List Nat) (c p B : Nat) (w : World) (hb : Bytes w B A l) (hn : A = none → c = 0) (hr : l.length ≤ c) (hp : p ≤ l.length) :
    ∃ A' c', (∀ W, (Instr.slice 22 (.slice A l.length c) (some (.int .i64 (p : Int))) none none).run Try.prog W = .ok (.slice A' (l.length - p) c') W) ∧ (A' = none → c' = 0) ∧ l.length - p ≤ c' ∧ (∀ W, Bytes W B A l → Bytes W B A' (l.drop p)) := by
  have hsz : ∀ W, (sizeOf (Try.prog.elem 22)).run Try.prog W = .ok 1 W := fun W => by kernel_rfl
  have key : ∀ W, (Instr.slice 22 (.slice A l.length c) (some (.int .i64 (p : Int))) none none).run Try.prog W = .ok (sliced A p l.length c 1) W := fun W => by
    rw [run_slice_l W 22 A l.length c (show Try.prog.underlying 22 = some (.slice (Try.prog.elem 22)) from by kernel_rfl) .i64 (p : Int) (by omega) (by omega), hsz W]
    simp [Result.andThen]
  by_cases hc : c = p
  · refine ⟨A, c - p, fun W => ?_, fun h => by rw [hn h]; omega, by omega, fun W hW => ?_⟩
    · rw [key W]; simp [sliced, hc]
    · obtain rfl : p = l.length := by omega
      rw [List.drop_length]
      exact ⟨by simp, by simp⟩
  · refine ⟨A.map (·.add p), c - p, fun W => ?_, fun h => ?_, by omega, fun W hW => ?_⟩
    · rw [key W]; simp [sliced, hc]
    · cases A with
      | none => rw [hn rfl]; omega
      | some ad => simp at h
    · by_cases hl : l.length = 0
      · obtain rfl : l = [] := List.eq_nil_of_length_eq_zero hl
        simp only [List.drop_nil]
        exact ⟨by simp, by simp⟩
      · obtain ⟨b, off, rfl, h2, h3⟩ := hW.2 (by omega)
        have := bytes_drop hW p
        by_cases h0 : p = 0
        · subst h0; simpa [Addr.add] using this
        · simpa [Addr.add, h0] using this
def QuietIs (w : World) (v : Value) (e : Ending) (w' : World) : Prop := e = .returned v ∧ ∃ m, w' = w.drewN m
def BlockIs (w : World) (v : Value) (e : Ending) (w' : World) : Prop := e = .returned v ∧ Below w.heap.size w w'
section
variable (w : World) (r : Nat) (A A' : Option Addr) (len c n' c' p e s e1 p1 e2 : Nat) (H : Hid (Rd w r (.slice A len c) p e))
  (HS : ∀ W, (Instr.slice 22 (.slice A len c) (some (.int .i64 (p : Int))) none none).run Try.prog W = .ok (.slice A' n' c') W)
  (HP : Hid (∀ W, Rd W r (.slice A len c) p e → Calls Try.prog 75 #[.pointer (some ⟨r, 0, none⟩), .int .i64 (s : Int), .int .i64 (e1 : Int)] W (RdIs W r (.slice A len c) p1 e2 (.tuple #[]))))
include H HS HP
set_option maxHeartbeats 1000000 in
set_option maxRecDepth 100000 in
theorem number_at (n : Nat) (hn : (n : Int) < 4294967296)
    (HU : Hid (∀ W, Calls Try.prog 76 #[.slice A' n' c', .int .i64 32] (w.drewN W) (QuietIs (w.drewN W) (.tuple #[.int .u64 (n : Int), .int .i64 (s : Int), .int .i64 (e1 : Int)])))) :
    Calls Try.prog 59 #[.pointer (some ⟨r, 0, none⟩)] w (RdIs w r (.slice A len c) p1 e2 (.int .i64 (n : Int))) := by
  obtain ⟨lt, c0, c1, c2, z1, z2⟩ := H.out
  go_enter Try.func59, Try.ntmps59
  go_wp2_with fail
  go_quiet ((go_at_call 76; exact Calls.quiet_of (HU.out _)))
  go_wp2_with fail
  refine (HP.out _ (H.out.drewN _)).mono ?_
  rintro en w1 ⟨rfl, hr1, hg1⟩
  go_wp2
  go_ret
  exact ⟨rfl, hr1, by_trans (by_drewN (by_refl _ _) _) hg1⟩
set_option maxHeartbeats 1000000 in
set_option maxRecDepth 100000 in
theorem signed_at (n bits : Int)
    (HU : Hid (∀ W, Calls Try.prog 77 #[.slice A' n' c', .int .i64 bits] (w.drewN W) (QuietIs (w.drewN W) (.tuple #[.int .i64 n, .int .i64 (s : Int), .int .i64 (e1 : Int)])))) :
    Calls Try.prog 62 #[.pointer (some ⟨r, 0, none⟩), .int .i64 bits] w (RdIs w r (.slice A len c) p1 e2 (.int .i64 n)) := by
  obtain ⟨lt, c0, c1, c2, z1, z2⟩ := H.out
  go_enter Try.func62, Try.ntmps62
  go_wp2_with fail
  go_quiet ((go_at_call 77; exact Calls.quiet_of (HU.out _)))
  go_wp2_with fail
  refine (HP.out _ (H.out.drewN _)).mono ?_
  rintro en w1 ⟨rfl, hr1, hg1⟩
  go_wp2
  go_ret
  exact ⟨rfl, hr1, by_trans (by_drewN (by_refl _ _) _) hg1⟩
set_option maxHeartbeats 1000000 in
set_option maxRecDepth 100000 in
theorem block_at (n : Int)
    (HU : Hid (∀ (W : World), Below w.heap.size w W → Calls Try.prog 74 #[.slice A' n' c'] W (BlockIs W (.tuple #[.int .i64 n, .int .i64 (s : Int), .int .i64 (e1 : Int)])))) :
    Calls Try.prog 58 #[.pointer (some ⟨r, 0, none⟩)] w (RdIs w r (.slice A len c) p1 e2 (.int .i64 n)) := by
  obtain ⟨lt, c0, c1, c2, z1, z2⟩ := H.out
  go_enter Try.func58, Try.ntmps58
  go_wp2_with fail
  go_region_held3 (fun W => W.cell? ⟨r, 0, none⟩ = some (.slice A len c) ∧ W.cell? ⟨r, 1, none⟩ = some (.int .i64 (p : Int))) (first | exact ⟨c0, c1⟩ | exact ⟨(hbB.cell lt).trans c0, (hbB.cell lt).trans c1⟩) (first | (go_at_call 74; refine (HU.out _ (Below.refl _ _).drew).mono ?_; rintro en wB ⟨rfl, hbB⟩))
  all_goals
    have hb1 : Below w.heap.size w wB := (Below.refl _ _).drew.trans hbB
    have hR1 := H.out.keep hb1
    go_wp2_with fail
    refine (HP.out _ hR1).mono ?_
    rintro en w1 ⟨rfl, hr1, hg1⟩
    go_wp2
    go_ret
    exact ⟨rfl, hr1, by_trans (by_below hb1 _) hg1⟩
end
end Go.Proofs.Ytdipgokbfjbgfaa.Ins
