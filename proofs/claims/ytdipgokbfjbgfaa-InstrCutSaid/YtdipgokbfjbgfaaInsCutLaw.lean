/-
  trammellaw06.InstrCut returns true, if instr's functions answer as the plain words do. Condition: that premise.
-/
import Derived.Test.YtdipgokbfjbgfaaInsDoes
namespace Go.Proofs.Ytdipgokbfjbgfaa.Ins
open Go.RowKit Leb Typ

/-- What Body answers, told by lengths alone. -/
def BodyIs (w : World) (k n er : Nat) (e : Ending) (w' : World) : Prop := ∃ A c, e = .returned (.tuple #[.slice A k c, .int .i64 (n : Int), .int .i64 (er : Int)]) ∧ Below w.heap.size w w'
theorem Body3.is {w : World} {r : List Ins × Nat × Nat} {e : Ending} {w' : World} (h : Body3 w r e w') : BodyIs w r.1.length r.2.1 r.2.2 e w' := by
  obtain ⟨A, c, h1, _, h2⟩ := h
  exact ⟨A, c, h1, h2⟩
section
variable (A : Option Addr) (len c m k n : Nat) (at' : Int) (w : World) (hm : min (len : Int) 4000 = (m : Int)) (hmc : m ≤ c) (hm3 : m ≤ 4000)
  (HA : Hid (Calls Try.prog 8 #[] w fun e w' => e = .returned (.bool true) ∧ Below w.heap.size w w'))
include hm hmc hm3 HA
set_option maxHeartbeats 4000000 in
set_option maxRecDepth 100000 in
theorem icut_err (er : Nat) (he : ((er : Int) != 0) = true) (HB : Hid (∀ W, Below w.heap.size w W → Calls Try.prog 24 #[.slice A m c] W (BodyIs W k n er))) :
    Calls Try.prog 6 #[.slice A len c, .int .i64 at'] w fun e w' => e = .returned (.bool true) ∧ Below w.heap.size w w' := by
  go_enter Try.func6, Try.ntmps6
  go_upto_region 3 with (go_at_call 8; refine HA.out.mono ?_; rintro e w1 ⟨rfl, hb1⟩)
  go_cut [0] (fun s0 wx => s0 = .slice A m c ∧ Below w.heap.size w wx)
  case first =>
    by_cases hs : (len : Int) ≤ 4000
    · obtain rfl : len = m := by omega
      go_wp2
      go_meet
      exact ⟨rfl, hb1⟩
    · obtain rfl : m = 4000 := by omega
      have hc3 : (4000 : Int) ≤ (c : Int) := by omega
      go_wp2
      go_meet
      exact ⟨rfl, hb1⟩
  case rest =>
    obtain ⟨rfl, hb2⟩ := hcut
    clear hm HA hb1
    go_wp2_with fail
    refine (HB.out _ hb2).mono ?_
    rintro e w2 ⟨A1, c1, rfl, hb3⟩
    have hb4 := hb2.trans (hb3.mono hb2.size)
    clear hb3 HB hb2
    go_wp2
    go_ret
    exact ⟨rfl, hb4⟩
variable (HB : Hid (∀ W, Below w.heap.size w W → Calls Try.prog 24 #[.slice A m c] W (BodyIs W k n 0)))
include HB
set_option maxHeartbeats 4000000 in
set_option maxRecDepth 100000 in
theorem icut_lo (hlo : at' < 0) :
    Calls Try.prog 6 #[.slice A len c, .int .i64 at'] w fun e w' => e = .returned (.bool true) ∧ Below w.heap.size w w' := by
  go_enter Try.func6, Try.ntmps6
  go_upto_region 3 with (go_at_call 8; refine HA.out.mono ?_; rintro e w1 ⟨rfl, hb1⟩)
  go_cut [0] (fun s0 wx => s0 = .slice A m c ∧ Below w.heap.size w wx)
  case first =>
    by_cases hs : (len : Int) ≤ 4000
    · obtain rfl : len = m := by omega
      go_wp2
      go_meet
      exact ⟨rfl, hb1⟩
    · obtain rfl : m = 4000 := by omega
      have hc3 : (4000 : Int) ≤ (c : Int) := by omega
      go_wp2
      go_meet
      exact ⟨rfl, hb1⟩
  case rest =>
    obtain ⟨rfl, hb2⟩ := hcut
    clear hm HA hb1
    go_wp2_with fail
    refine (HB.out _ hb2).mono ?_
    rintro e w2 ⟨A1, c1, rfl, hb3⟩
    have hb4 := hb2.trans (hb3.mono hb2.size)
    clear hb3 HB hb2
    go_wp2
    go_ret
    exact ⟨rfl, hb4⟩
set_option maxHeartbeats 4000000 in
set_option maxRecDepth 100000 in
theorem icut_hi (hlo : ¬ at' < 0) (hhi : (n : Int) ≤ at') :
    Calls Try.prog 6 #[.slice A len c, .int .i64 at'] w fun e w' => e = .returned (.bool true) ∧ Below w.heap.size w w' := by
  go_enter Try.func6, Try.ntmps6
  go_upto_region 3 with (go_at_call 8; refine HA.out.mono ?_; rintro e w1 ⟨rfl, hb1⟩)
  go_cut [0] (fun s0 wx => s0 = .slice A m c ∧ Below w.heap.size w wx)
  case first =>
    by_cases hs : (len : Int) ≤ 4000
    · obtain rfl : len = m := by omega
      go_wp2
      go_meet
      exact ⟨rfl, hb1⟩
    · obtain rfl : m = 4000 := by omega
      have hc3 : (4000 : Int) ≤ (c : Int) := by omega
      go_wp2
      go_meet
      exact ⟨rfl, hb1⟩
  case rest =>
    obtain ⟨rfl, hb2⟩ := hcut
    clear hm HA hb1
    go_wp2_with fail
    refine (HB.out _ hb2).mono ?_
    rintro e w2 ⟨A1, c1, rfl, hb3⟩
    have hb4 := hb2.trans (hb3.mono hb2.size)
    clear hb3 HB hb2
    go_wp2
    go_ret
    exact ⟨rfl, hb4⟩
set_option maxHeartbeats 4000000 in
set_option maxRecDepth 100000 in
theorem icut_in (p : Nat) (hp : at' = (p : Int)) (hpn : p < n) (hnm : n ≤ m) (HB2 : Hid (∀ W, Below w.heap.size w W → Calls Try.prog 24 #[.slice A p c] W (BodyIs W 0 0 1))) :
    Calls Try.prog 6 #[.slice A len c, .int .i64 at'] w fun e w' => e = .returned (.bool true) ∧ Below w.heap.size w w' := by
  subst hp
  have hpi : ¬ (n : Int) ≤ (p : Int) := by omega
  have hpc : (p : Int) ≤ (c : Int) := by omega
  go_enter Try.func6, Try.ntmps6
  go_upto_region 3 with (go_at_call 8; refine HA.out.mono ?_; rintro e w1 ⟨rfl, hb1⟩)
  go_cut [0] (fun s0 wx => s0 = .slice A m c ∧ Below w.heap.size w wx)
  case first =>
    by_cases hs : (len : Int) ≤ 4000
    · obtain rfl : len = m := by omega
      go_wp2
      go_meet
      exact ⟨rfl, hb1⟩
    · obtain rfl : m = 4000 := by omega
      have hc3 : (4000 : Int) ≤ (c : Int) := by omega
      go_wp2
      go_meet
      exact ⟨rfl, hb1⟩
  case rest =>
    obtain ⟨rfl, hb2⟩ := hcut
    clear hm HA hb1
    go_wp2_with fail
    refine (HB.out _ hb2).mono ?_
    rintro e w2 ⟨A1, c1, rfl, hb3⟩
    have hb4 := hb2.trans (hb3.mono hb2.size)
    clear hb3 HB hb2
    go_wp2_with fail
    refine (HB2.out _ hb4).mono ?_
    rintro e w5 ⟨A5, c5, rfl, hb5⟩
    have hb6 := hb4.trans (hb5.mono hb4.size)
    clear hb5 HB2 hb4
    go_wp2
    go_ret
    exact ⟨rfl, hb6⟩
end
theorem cut_law {T : World → Prop} (D : Does T) (A : Option Addr) (l : List Nat) (c : Nat) (at' : Int) (w : World) (hT : T w) (hs : Slc w A c l) :
    Calls Try.prog 6 #[.slice A l.length c, .int .i64 at'] w fun e w' => e = .returned (.bool true) ∧ Below w.heap.size w w' := by
  have HA := Lib.hid (awake_any D w hT)
  obtain ⟨m, hm⟩ : ∃ m, m = min l.length 4000 := ⟨_, rfl⟩
  have hr := hs.room
  have hs1 := Slc.cutTo hs m
  have hlen : (l.take m).length = m := by simp; omega
  have HB : ∀ r, bodyRes (l.take m) = r → Hid (∀ W, Below w.heap.size w W → Calls Try.prog 24 #[.slice A m c] W (BodyIs W r.1.length r.2.1 r.2.2)) := fun r h => Lib.hid fun W hW => by
    have := D.body A (l.take m) c W (hs1.below hW) (by omega) (D.keep _ _ hT hW)
    rw [hlen, h] at this
    exact this.mono fun _ _ h => h.is
  generalize hg : bodyRes (l.take m) = g at HB
  obtain ⟨xs, n, er⟩ := g
  have HB1 := HB _ rfl
  by_cases he : er = 0
  · subst he
    by_cases hlo : at' < 0
    · exact icut_lo A l.length c m xs.length n at' w (by omega) (by omega) (by omega) HA HB1 hlo
    · by_cases hhi : (n : Int) ≤ at'
      · exact icut_hi A l.length c m xs.length n at' w (by omega) (by omega) (by omega) HA HB1 hlo hhi
      · obtain ⟨p, rfl⟩ : ∃ p : Nat, at' = (p : Int) := ⟨at'.toNat, by omega⟩
        have hnm : n ≤ m := by
          have := bodyRes_le hg
          omega
        have hc := bodyRes_cut hg p (by omega)
        have hs2 := Slc.cutTo hs1 p
        have hlp : ((l.take m).take p).length = p := by rw [List.length_take, hlen]; omega
        refine icut_in A l.length c m xs.length n _ w (by omega) (by omega) (by omega) HA HB1 p rfl (by omega) hnm (Lib.hid fun W hW => ?_)
        have := D.body A ((l.take m).take p) c W (hs2.below hW) (by omega) (D.keep _ _ hT hW)
        rw [hlp, hc] at this
        exact this.mono fun _ _ h => h.is
  · exact icut_err A l.length c m xs.length n at' w (by omega) (by omega) (by omega) HA er (by simp; omega) HB1
end Go.Proofs.Ytdipgokbfjbgfaa.Ins
