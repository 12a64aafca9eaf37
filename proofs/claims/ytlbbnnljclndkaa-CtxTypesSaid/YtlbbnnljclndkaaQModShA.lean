/-
  ModShA: trammelref08.more, trammelref08.bodySize: what each comes to, as far as bounds go. Conditions: lengths are no numbers below 0; the slice leads to instructions.
-/
import Derived.Test.YtlbbnnljclndkaaQModOpen
import Derived.Test.YtlbbnnljclndkaaQIns
import Derived.Deep.RegionLaw
namespace Go.Proofs.Ytlbbnnljclndkaa.Sh
open Go.RowKit Leb
open _root_.Go.Proofs.Ytlbbnnljclndkaa.Mod

/-- A size so far: too much (-1), or at most 3000 and something holds. -/
def Sz (n : Int) (P : Prop) : Prop := n = -1 ∨ (0 ≤ n ∧ n ≤ 3000 ∧ P)
theorem Sz.imp {n : Int} {P Q : Prop} (h : Sz n P) (f : P → Q) : Sz n Q := Or.imp id (fun h => ⟨h.1, h.2.1, f h.2.2⟩) h
theorem Sz.range {n : Int} {P : Prop} (h : Sz n P) : -1 ≤ n ∧ n ≤ 3000 := by rcases h with h | h <;> omega
def MoreIs (w : World) (P : Prop) (k : Nat) (en : Ending) (w' : World) : Prop := ∃ m : Int, en = .returned (.int .i64 m) ∧ Sz m (P ∧ k ≤ 3000) ∧ w' = w
set_option maxRecDepth 100000 in
theorem more_any (n : Int) (k : Nat) (w : World) (P : Prop) (hn : Sz n P) (hk : k ≤ 9223372036854775807) : Calls Try.prog 12 #[.int .i64 n, .int .i64 (k : Int)] w (MoreIs w P k) := by
  obtain ⟨hr1, hr2⟩ := hn.range
  have HN := Lib.hid hn
  clear hn
  by_cases h1 : n < 0
  · clear HN
    go_enter Try.func12, Try.ntmps12
    go_wp2
    go_ret
    exact ⟨-1, rfl, .inl rfl, rfl⟩
  · have HP : Hid (0 ≤ n ∧ n ≤ 3000 ∧ P) := Lib.hid (HN.out.resolve_left (by omega))
    clear HN
    by_cases h2 : (3000 : Int) < (k : Int)
    · clear HP
      go_enter Try.func12, Try.ntmps12
      go_wp2
      go_ret
      exact ⟨-1, rfl, .inl rfl, rfl⟩
    · by_cases h3 : (3000 : Int) < n + (k : Int)
      · clear HP
        go_enter Try.func12, Try.ntmps12
        go_wp2
        go_ret
        exact ⟨-1, rfl, .inl rfl, rfl⟩
      · go_enter Try.func12, Try.ntmps12
        go_wp2
        go_ret
        exact ⟨_, rfl, .inr ⟨by omega, by omega, HP.out.2.2, by omega⟩, rfl⟩
def BodyIs (w : World) (P : Prop) (xs : List Ins.Ins) (en : Ending) (w' : World) : Prop := ∃ m : Int, en = .returned (.int .i64 m) ∧ Sz m (P ∧ xs.length ≤ 3000 ∧ ∀ x ∈ xs, x.l.length ≤ 3000) ∧ w' = w
set_option maxRecDepth 100000 in
set_option maxHeartbeats 1000000 in
theorem bodySize_any (n : Int) (A : Option Addr) (c B : Nat) (xs : List Ins.Ins) (w : World) (P : Prop) (hn : Sz n P) (hb : Ins.Inss w B A xs) (hl : xs.length ≤ 9223372036854775807) (hx : ∀ x ∈ xs, x.l.length ≤ 9223372036854775807) : Calls Try.prog 13 #[.int .i64 n, .slice A xs.length c] w (BodyIs w P xs) := by
  have HM := Lib.hid (more_any n xs.length w P hn hl)
  have HX := Lib.hid hx
  have HI := Lib.hid hb
  have hlm : (xs.length : Int) ≤ 9223372036854775807 := by omega
  clear hn hl hx hb
  go_enter Try.func13, Try.ntmps13
  go_wp2_with fail
  refine HM.out.mono ?_
  rintro en w1 ⟨m, rfl, hm, hw1⟩
  subst w1
  have HM1 : Hid (Sz m (P ∧ xs.length ≤ 3000 ∧ ∀ x ∈ xs.take 0, x.l.length ≤ 3000)) := Lib.hid (hm.imp fun h => ⟨h.1, h.2, by simp⟩)
  clear HM hm
  go_wp2
  go_loopw [0, 5] (fun o i wr => ∃ (j : Nat) (m : Int), j ≤ xs.length ∧ o = .int .i64 m ∧ i = .int .i64 (j : Int) ∧ Hid (Sz m (P ∧ xs.length ≤ 3000 ∧ ∀ x ∈ xs.take j, x.l.length ≤ 3000)) ∧ wr = w) (fun _ i _ => xs.length - (intOf i).toNat)
  case atStart => exact ⟨0, m, Nat.zero_le _, rfl, rfl, HM1, rfl⟩
  case round =>
    clear HM1
    obtain ⟨j, k, hj, rfl, rfl, HS, hwr⟩ := hrel
    subst wr
    by_cases hlt : j < xs.length
    · have hlti : (j : Int) < (xs.length : Int) := by omega
      by_cases hk : 0 ≤ k
      · obtain ⟨b, off, rfl, hbB, hcs⟩ := HI.out (by omega)
        obtain ⟨A1, c1, -, -, -, -, u4, -⟩ := hcs j hlt
        have HM := Lib.hid (more_any k xs[j].l.length w _ HS.out (HX.out _ (List.getElem_mem hlt)))
        clear hcs hbB
        go_wp2_with fail
        refine HM.out.mono ?_
        rintro en w2 ⟨m2, rfl, hm2, hw2⟩
        subst w2
        have HM2 : Hid (Sz m2 (P ∧ xs.length ≤ 3000 ∧ ∀ x ∈ xs.take (j + 1), x.l.length ≤ 3000)) := Lib.hid (hm2.imp fun h => ⟨h.1.1, h.1.2.1, fun x hx => by
          rw [List.take_succ_eq_append_getElem hlt] at hx
          rcases List.mem_append.1 hx with hx | hx
          · exact h.1.2.2 x hx
          · have : x = xs[j] := by simpa using hx
            rw [this]; exact h.2⟩)
        clear HM hm2 HS u4
        go_wp2
        go_roundw
        case rel => exact ⟨j + 1, m2, by omega, rfl, by go_num, HM2, by trivial⟩
        case measure => simp [intOf]; omega
      · have HE : Hid (k = -1) := Lib.hid (HS.out.resolve_right fun h => hk h.1)
        clear HS
        go_wp2
        go_ret
        exact ⟨_, rfl, .inl HE.out, rfl⟩
    · have hlti : ¬ (j : Int) < (xs.length : Int) := by omega
      have HE : Hid (Sz k (P ∧ xs.length ≤ 3000 ∧ ∀ x ∈ xs, x.l.length ≤ 3000)) := Lib.hid (HS.out.imp fun h => by rwa [List.take_of_length_le (by omega)] at h)
      clear HS
      go_wp2
      go_ret
      exact ⟨_, rfl, HE.out, rfl⟩
end Go.Proofs.Ytlbbnnljclndkaa.Sh
