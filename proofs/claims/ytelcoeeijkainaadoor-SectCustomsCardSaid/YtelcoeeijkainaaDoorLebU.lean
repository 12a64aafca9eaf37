/-
  leb.U: what it comes to. Conditions: the bytes lie in memory as a slice's cells.
-/
import Derived.Test.YtelcoeeijkainaaDoorLebGather
import Derived.Deep.QuietTactic
import Derived.BigQuiet
import Derived.Deep.Draws
namespace Go.Proofs.YtelcoeeijkainaaDoor.Leb
open Go.RowKit

/-- What leb.U answers. -/
def inl (n : Nat) : Nat := n - (most n - 1) * 7
def uRes (l : List Nat) (n : Nat) : Nat × Nat × Nat :=
  if (gath l (most n)).2.2 = 0 then
    if (gath l (most n)).2.1 = most n ∧ l.getD (most n - 1) 0 / 2 ^ inl n ≠ 0 then (0, 0, 2) else gath l (most n)
  else (0, 0, (gath l (most n)).2.2)
theorem inl_bounds (n : Nat) (h0 : 1 ≤ n) : 1 ≤ inl n ∧ inl n ≤ 7 := by unfold inl most; omega
theorem inLast_nat (n : Nat) (w : World) (h0 : 1 ≤ n) (h : n ≤ 64) : Calls Tryd.prog 29 #[.int .i64 (n : Int)] w fun e w' => e = .returned (.int .i64 ((inl n : Nat) : Int)) ∧ w = w' := by
  have e : ((inl n : Nat) : Int) = (n : Int) - (((n : Int) + 6) / 7 - 1) * 7 := by unfold inl most; omega
  rw [e]
  exact inLast_any n w (by omega) (by omega)
theorem gath_cases (l : List Nat) (m : Nat) : ∃ v s e, gath l m = (v, s, e) ∧ (e = 0 ∨ e = 1 ∨ e = 2) ∧ (e = 0 → 1 ≤ s ∧ s ≤ m ∧ s ≤ l.length) := by
  unfold gath
  have := lead_le l
  split
  · exact ⟨_, _, _, rfl, by omega, by omega⟩
  · split
    · exact ⟨_, _, _, rfl, by omega, by omega⟩
    · exact ⟨_, _, _, rfl, by omega, by omega⟩
theorem U_arg (A : Option Addr) (len cap : Nat) (n : Int) (w : World) (h : n < 1 ∨ 64 < n) :
    Calls Tryd.prog 22 #[.slice A len cap, .int .i64 n] w fun e w' => e = .returned (.tuple #[.int .u64 0, .int .i64 0, .int .i64 5]) ∧ ∃ m, w' = w.drewN m := by
  go_enter Tryd.func22, Tryd.ntmps22
  go_wp2_with (go_at_call 27; refine (gather_arg _ _ _ _ _ h).mono ?_; rintro e w' ⟨rfl, rfl⟩)
  go_ret3
  exact ⟨rfl, 0, rfl⟩
/-- What leb.gather is told to come to, as leb.U and leb.S meet it. -/
def Gathers (A : Option Addr) (len cap n v s e : Nat) (w : World) : Prop :=
  Calls Tryd.prog 27 #[.slice A len cap, .int .i64 (n : Int)] w fun r w' => r = .returned (.tuple #[.int .u64 (v : Int), .int .i64 (s : Int), .int .i64 (e : Int)]) ∧ w = w'
section
variable (A : Option Addr) (len cap n v s : Nat) (w : World)
theorem U_err (e : Nat) (HG : Gathers A len cap n v s e w) (he : e ≠ 0) :
    Calls Tryd.prog 22 #[.slice A len cap, .int .i64 (n : Int)] w fun r w' => r = .returned (.tuple #[.int .u64 0, .int .i64 0, .int .i64 (e : Int)]) ∧ ∃ m, w' = w.drewN m := by
  have hne : ((e : Int) != 0) = true := by simp; omega
  clear he
  go_enter Tryd.func22, Tryd.ntmps22
  go_wp2_with (go_at_call 27; refine Calls.mono HG ?_; rintro e w' ⟨rfl, rfl⟩)
  go_ret3
  exact ⟨rfl, 0, rfl⟩
theorem U_less (HG : Gathers A len cap n v s 0 w) (h0 : 1 ≤ n) (h64 : n ≤ 64) (hs : s ≠ most n) :
    Calls Tryd.prog 22 #[.slice A len cap, .int .i64 (n : Int)] w fun r w' => r = .returned (.tuple #[.int .u64 (v : Int), .int .i64 (s : Int), .int .i64 0]) ∧ ∃ m, w' = w.drewN m := by
  have hbl : ((s : Int) == ((n : Int) + 6) / 7) = false := by simp only [beq_eq_false_iff_ne]; unfold most at hs; omega
  clear hs
  go_enter Tryd.func22, Tryd.ntmps22
  go_wp2_with (go_at_call 27; refine Calls.mono HG ?_; rintro e w' ⟨rfl, rfl⟩)
  go_quiet ((first | (go_at_call 28; exact Calls.quiet_of_same (same_of (most_any _ _ (by omega) (by omega)))) | (go_at_call 29; exact Calls.quiet_of_same (same_of (inLast_any _ _ (by omega) (by omega))))))
  go_wp2
  go_ret3
  exact ⟨rfl, _, rfl⟩
end
section
variable (b off len cap n v s x : Nat) (w : World)
theorem U_most (HG : Gathers (some ⟨b, off, none⟩) len cap n v s 0 w) (h0 : 1 ≤ n) (h64 : n ≤ 64) (hs : s = most n) (h1 : 1 ≤ s) (hl : s ≤ len)
    (hc : w.cell? ⟨b, off + (s - 1), none⟩ = some (.int .u8 (x : Int))) (hx : x / 2 ^ inl n = 0) :
    Calls Tryd.prog 22 #[.slice (some ⟨b, off, none⟩) len cap, .int .i64 (n : Int)] w fun r w' => r = .returned (.tuple #[.int .u64 (v : Int), .int .i64 (s : Int), .int .i64 0]) ∧ ∃ m, w' = w.drewN m := by
  have hbl : ((s : Int) == ((n : Int) + 6) / 7) = true := by simp only [beq_iff_eq]; unfold most at hs; omega
  have hlt : (s : Int) - 1 < (len : Int) := by omega
  have hge : 0 ≤ (s : Int) - 1 := by omega
  obtain ⟨hi0, hi7⟩ := inl_bounds n h0
  have hsh : ((x : Int) / 2 ^ inl n != 0) = false := by
    have : ((x / 2 ^ inl n : Nat) : Int) = 0 := by omega
    simpa using this
  have Hin := Lib.hid (fun W => inLast_nat n W h0 h64)
  have Hmo := Lib.hid (fun W => most_any (n : Int) W (by omega) (by omega))
  have hw1 : IntKind.i64.wrap ((s : Int) - 1) = (s : Int) - 1 := IntWalk.i64_in _ (by unfold most at hs; omega)
  have hw2 : ((s : Int) - 1).toNat = s - 1 := by omega
  clear hs hx
  go_enter Tryd.func22, Tryd.ntmps22
  go_wp2_with (go_at_call 27; refine Calls.mono HG ?_; rintro e w' ⟨rfl, rfl⟩)
  go_quiet ((first | (go_at_call 28; exact Calls.quiet_of_same (same_of (Hmo.out _))) | (go_at_call 29; exact Calls.quiet_of_same (same_of (Hin.out _)))))
  go_wp2
  go_ret3
  exact ⟨rfl, _, rfl⟩
theorem U_over (HG : Gathers (some ⟨b, off, none⟩) len cap n v s 0 w) (h0 : 1 ≤ n) (h64 : n ≤ 64) (hs : s = most n) (h1 : 1 ≤ s) (hl : s ≤ len)
    (hc : w.cell? ⟨b, off + (s - 1), none⟩ = some (.int .u8 (x : Int))) (hx : x / 2 ^ inl n ≠ 0) :
    Calls Tryd.prog 22 #[.slice (some ⟨b, off, none⟩) len cap, .int .i64 (n : Int)] w fun r w' => r = .returned (.tuple #[.int .u64 0, .int .i64 0, .int .i64 2]) ∧ ∃ m, w' = w.drewN m := by
  have hbl : ((s : Int) == ((n : Int) + 6) / 7) = true := by simp only [beq_iff_eq]; unfold most at hs; omega
  have hlt : (s : Int) - 1 < (len : Int) := by omega
  have hge : 0 ≤ (s : Int) - 1 := by omega
  obtain ⟨hi0, hi7⟩ := inl_bounds n h0
  have hsh : ((x : Int) / 2 ^ inl n != 0) = true := by
    have : ((x / 2 ^ inl n : Nat) : Int) ≠ 0 := by omega
    simpa using this
  have Hin := Lib.hid (fun W => inLast_nat n W h0 h64)
  have Hmo := Lib.hid (fun W => most_any (n : Int) W (by omega) (by omega))
  have hw1 : IntKind.i64.wrap ((s : Int) - 1) = (s : Int) - 1 := IntWalk.i64_in _ (by unfold most at hs; omega)
  have hw2 : ((s : Int) - 1).toNat = s - 1 := by omega
  clear hs hx
  go_enter Tryd.func22, Tryd.ntmps22
  go_wp2_with (go_at_call 27; refine Calls.mono HG ?_; rintro e w' ⟨rfl, rfl⟩)
  go_quiet ((first | (go_at_call 28; exact Calls.quiet_of_same (same_of (Hmo.out _))) | (go_at_call 29; exact Calls.quiet_of_same (same_of (Hin.out _)))))
  go_wp2
  go_ret3
  exact ⟨rfl, _, rfl⟩
end
theorem U_any (A : Option Addr) (l : List Nat) (cap B n : Nat) (w : World) (hb : Bytes w B A l) (h0 : 1 ≤ n) (h64 : n ≤ 64) :
    Calls Tryd.prog 22 #[.slice A l.length cap, .int .i64 (n : Int)] w fun e w' =>
      e = .returned (.tuple #[.int .u64 ((uRes l n).1 : Nat), .int .i64 ((uRes l n).2.1 : Nat), .int .i64 ((uRes l n).2.2 : Nat)]) ∧ ∃ m, w' = w.drewN m := by
  obtain ⟨v, s, e, hg, he, hs⟩ := gath_cases l (most n)
  have HG : Gathers A l.length cap n v s e w := by
    have := gather_any A l cap B n w hb h0 h64
    rw [hg] at this
    exact this
  by_cases h : e = 0
  · subst h
    obtain ⟨hs1, hsm, hsl⟩ := hs rfl
    by_cases hsn : s = most n
    · obtain ⟨b, off, rfl, hc, _⟩ := bytes_at hb hs1 hsl
      by_cases hx : l.getD (s - 1) 0 / 2 ^ inl n = 0
      · have hu : uRes l n = (v, s, 0) := by
          unfold uRes
          rw [hg, if_pos rfl, if_neg (by rw [← hsn]; exact fun h => h.2 hx)]
        rw [hu]
        exact U_most b off l.length cap n v s _ w HG h0 h64 hsn hs1 hsl hc hx
      · have hu : uRes l n = (0, 0, 2) := by
          unfold uRes
          rw [hg, if_pos rfl, if_pos (by rw [← hsn]; exact ⟨rfl, hx⟩)]
        rw [hu]
        exact U_over b off l.length cap n v s _ w HG h0 h64 hsn hs1 hsl hc hx
    · have hu : uRes l n = (v, s, 0) := by
        unfold uRes
        rw [hg, if_pos rfl, if_neg (fun h => hsn h.1)]
      rw [hu]
      exact U_less A l.length cap n v s w HG h0 h64 hsn
  · have hu : uRes l n = (0, 0, e) := by
      unfold uRes
      rw [hg, if_neg h]
    rw [hu]
    exact U_err A l.length cap n v s w e HG h
end Go.Proofs.YtelcoeeijkainaaDoor.Leb
