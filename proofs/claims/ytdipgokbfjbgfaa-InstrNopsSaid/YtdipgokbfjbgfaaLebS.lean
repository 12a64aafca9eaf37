/-
  leb.carriesSign, leb.extend, leb.S: what each comes to. Conditions: the bytes lie in memory as a slice's cells.
-/
import Derived.Test.YtdipgokbfjbgfaaLebU
namespace Go.Proofs.Ytdipgokbfjbgfaa.Leb
open Go.RowKit

def csB (x b : Int) : Bool := x / 2 ^ (b.toNat - 1) == 0 || x / 2 ^ (b.toNat - 1) == 127 / 2 ^ (b.toNat - 1)
theorem carries_any (x b : Int) (w : World) (hb0 : 1 ≤ b) (hb : b ≤ 7) :
    Calls Try.prog 97 #[.int .u8 x, .int .i64 b] w fun e w' => e = .returned (.bool (csB x b)) ∧ w = w' := by
  go_enter Try.func97, Try.ntmps97
  go_wp2
  · have h : x / 2 ^ (b.toNat - 1) = 0 := by assumption
    go_ret
    exact ⟨ret_bool (by unfold csB; rw [h]; rfl), rfl⟩
  · go_ret
    exact ⟨rfl, rfl⟩
def ext (v b : Int) : Int := if 64 ≤ b then wrap64 v else wrap64 (IntKind.u64.wrap (v * 2 ^ (64 - b).toNat)) / 2 ^ (64 - b).toNat
theorem extend_any (v b : Int) (w : World) (hb0 : 1 ≤ b) (hb : b ≤ 70) :
    Calls Try.prog 98 #[.int .u64 v, .int .i64 b] w fun e w' => e = .returned (.int .i64 (ext v b)) ∧ w = w' := by
  by_cases h : 64 ≤ b
  · have he : ext v b = wrap64 v := if_pos h
    rw [he]
    clear he
    go_enter Try.func98, Try.ntmps98
    go_wp2
    go_ret
    exact ⟨rfl, rfl⟩
  · have he : ext v b = wrap64 (IntKind.u64.wrap (v * 2 ^ (64 - b).toNat)) / 2 ^ (64 - b).toNat := if_neg h
    rw [he]
    clear he
    go_enter Try.func98, Try.ntmps98
    go_wp2
    go_ret
    exact ⟨rfl, rfl⟩

/-- What leb.S answers. -/
def sRes (l : List Nat) (n : Nat) : Int × Nat × Nat :=
  if (gath l (most n)).2.2 = 0 then
    if (gath l (most n)).2.1 = most n ∧ csB (l.getD (most n - 1) 0 : Nat) (inl n : Nat) = false then (0, 0, 2) else (ext (gath l (most n)).1 ((gath l (most n)).2.1 * 7), (gath l (most n)).2.1, 0)
  else (0, 0, (gath l (most n)).2.2)
theorem S_arg (A : Option Addr) (len cap : Nat) (n : Int) (w : World) (h : n < 1 ∨ 64 < n) :
    Calls Try.prog 77 #[.slice A len cap, .int .i64 n] w fun e w' => e = .returned (.tuple #[.int .i64 0, .int .i64 0, .int .i64 5]) ∧ ∃ m, w' = w.drewN m := by
  go_enter Try.func77, Try.ntmps77
  go_wp2_with (go_at_call 95; refine (gather_arg _ _ _ _ _ h).mono ?_; rintro e w' ⟨rfl, rfl⟩)
  go_ret3
  exact ⟨rfl, 0, rfl⟩
section
variable (A : Option Addr) (len cap n v s : Nat) (w : World)
theorem S_err (e : Nat) (HG : Gathers A len cap n v s e w) (he : e ≠ 0) :
    Calls Try.prog 77 #[.slice A len cap, .int .i64 (n : Int)] w fun r w' => r = .returned (.tuple #[.int .i64 0, .int .i64 0, .int .i64 (e : Int)]) ∧ ∃ m, w' = w.drewN m := by
  have hne : ((e : Int) != 0) = true := by simp; omega
  clear he
  go_enter Try.func77, Try.ntmps77
  go_wp2_with (go_at_call 95; refine Calls.mono HG ?_; rintro e w' ⟨rfl, rfl⟩)
  go_ret3
  exact ⟨rfl, 0, rfl⟩
theorem S_less (HG : Gathers A len cap n v s 0 w) (h0 : 1 ≤ n) (h64 : n ≤ 64) (hs : s ≠ most n) (h1 : 1 ≤ s) (h10 : s ≤ 10) :
    Calls Try.prog 77 #[.slice A len cap, .int .i64 (n : Int)] w fun r w' => r = .returned (.tuple #[.int .i64 (ext v (s * 7)), .int .i64 (s : Int), .int .i64 0]) ∧ ∃ m, w' = w.drewN m := by
  have hbl : ((s : Int) == ((n : Int) + 6) / 7) = false := by simp only [beq_eq_false_iff_ne]; unfold most at hs; omega
  clear hs
  have Hex := Lib.hid (fun W => extend_any (v : Int) ((s : Int) * 7) W (by omega) (by omega))
  go_enter Try.func77, Try.ntmps77
  go_wp2_with (go_at_call 95; refine Calls.mono HG ?_; rintro e w' ⟨rfl, rfl⟩)
  go_quiet ((go_at_call 78; exact Calls.quiet_of_same (same_of (most_any _ _ (by omega) (by omega)))))
  go_wp2_with (go_at_call 98; refine Calls.mono (Hex.out _) ?_; rintro e w' ⟨rfl, rfl⟩)
  go_ret3
  exact ⟨rfl, _, rfl⟩
end
section
variable (b off len cap n v s x : Nat) (w : World)
theorem S_most (HG : Gathers (some ⟨b, off, none⟩) len cap n v s 0 w) (h0 : 1 ≤ n) (h64 : n ≤ 64) (hs : s = most n) (h1 : 1 ≤ s) (hl : s ≤ len)
    (hc : w.cell? ⟨b, off + (s - 1), none⟩ = some (.int .u8 (x : Int))) (hx : csB x (inl n : Nat) = true) :
    Calls Try.prog 77 #[.slice (some ⟨b, off, none⟩) len cap, .int .i64 (n : Int)] w fun r w' => r = .returned (.tuple #[.int .i64 (ext v (s * 7)), .int .i64 (s : Int), .int .i64 0]) ∧ ∃ m, w' = w.drewN m := by
  have hbl : ((s : Int) == ((n : Int) + 6) / 7) = true := by simp only [beq_iff_eq]; unfold most at hs; omega
  have hlt : (s : Int) - 1 < (len : Int) := by omega
  have hge : 0 ≤ (s : Int) - 1 := by omega
  have h10 : s ≤ 10 := by unfold most at hs; omega
  obtain ⟨hi0, hi7⟩ := inl_bounds n h0
  have Hin := Lib.hid (fun W => inLast_nat n W h0 h64)
  have Hmo := Lib.hid (fun W => most_any (n : Int) W (by omega) (by omega))
  have Hcs := Lib.hid (fun W => carries_any (x : Int) ((inl n : Nat) : Int) W (by omega) (by omega))
  have Hex := Lib.hid (fun W => extend_any (v : Int) ((s : Int) * 7) W (by omega) (by omega))
  rw [hx] at Hcs
  have hw1 : IntKind.i64.wrap ((s : Int) - 1) = (s : Int) - 1 := IntWalk.i64_in _ (by omega)
  have hw2 : ((s : Int) - 1).toNat = s - 1 := by omega
  clear hs hx
  go_enter Try.func77, Try.ntmps77
  go_wp2_with (go_at_call 95; refine Calls.mono HG ?_; rintro e w' ⟨rfl, rfl⟩)
  go_quiet ((first | (go_at_call 78; exact Calls.quiet_of_same (same_of (Hmo.out _))) | (go_at_call 96; exact Calls.quiet_of_same (same_of (Hin.out _))) | (go_at_call 97; exact Calls.quiet_of_same (same_of (Hcs.out _)))))
  clear hw1 hw2
  go_wp2_with (go_at_call 98; refine Calls.mono (Hex.out _) ?_; rintro e w' ⟨rfl, rfl⟩)
  go_ret3
  exact ⟨rfl, _, rfl⟩
theorem S_over (HG : Gathers (some ⟨b, off, none⟩) len cap n v s 0 w) (h0 : 1 ≤ n) (h64 : n ≤ 64) (hs : s = most n) (h1 : 1 ≤ s) (hl : s ≤ len)
    (hc : w.cell? ⟨b, off + (s - 1), none⟩ = some (.int .u8 (x : Int))) (hx : csB x (inl n : Nat) = false) :
    Calls Try.prog 77 #[.slice (some ⟨b, off, none⟩) len cap, .int .i64 (n : Int)] w fun r w' => r = .returned (.tuple #[.int .i64 0, .int .i64 0, .int .i64 2]) ∧ ∃ m, w' = w.drewN m := by
  have hbl : ((s : Int) == ((n : Int) + 6) / 7) = true := by simp only [beq_iff_eq]; unfold most at hs; omega
  have hlt : (s : Int) - 1 < (len : Int) := by omega
  have hge : 0 ≤ (s : Int) - 1 := by omega
  have h10 : s ≤ 10 := by unfold most at hs; omega
  obtain ⟨hi0, hi7⟩ := inl_bounds n h0
  have Hin := Lib.hid (fun W => inLast_nat n W h0 h64)
  have Hmo := Lib.hid (fun W => most_any (n : Int) W (by omega) (by omega))
  have Hcs := Lib.hid (fun W => carries_any (x : Int) ((inl n : Nat) : Int) W (by omega) (by omega))
  rw [hx] at Hcs
  have hw1 : IntKind.i64.wrap ((s : Int) - 1) = (s : Int) - 1 := IntWalk.i64_in _ (by omega)
  have hw2 : ((s : Int) - 1).toNat = s - 1 := by omega
  clear hs hx
  go_enter Try.func77, Try.ntmps77
  go_wp2_with (go_at_call 95; refine Calls.mono HG ?_; rintro e w' ⟨rfl, rfl⟩)
  go_quiet ((first | (go_at_call 78; exact Calls.quiet_of_same (same_of (Hmo.out _))) | (go_at_call 96; exact Calls.quiet_of_same (same_of (Hin.out _))) | (go_at_call 97; exact Calls.quiet_of_same (same_of (Hcs.out _)))))
  go_wp2
  go_ret3
  exact ⟨rfl, _, rfl⟩
end
theorem S_any (A : Option Addr) (l : List Nat) (cap B n : Nat) (w : World) (hb : Bytes w B A l) (h0 : 1 ≤ n) (h64 : n ≤ 64) :
    Calls Try.prog 77 #[.slice A l.length cap, .int .i64 (n : Int)] w fun e w' =>
      e = .returned (.tuple #[.int .i64 (sRes l n).1, .int .i64 ((sRes l n).2.1 : Nat), .int .i64 ((sRes l n).2.2 : Nat)]) ∧ ∃ m, w' = w.drewN m := by
  obtain ⟨v, s, e, hg, he, hs⟩ := gath_cases l (most n)
  have HG : Gathers A l.length cap n v s e w := by
    have := gather_any A l cap B n w hb h0 h64
    rw [hg] at this
    exact this
  by_cases h : e = 0
  · subst h
    obtain ⟨hs1, hsm, hsl⟩ := hs rfl
    have hmn : most n ≤ 10 := by unfold most; omega
    by_cases hsn : s = most n
    · obtain ⟨b, off, rfl, hc, _⟩ := bytes_at hb hs1 hsl
      by_cases hx : csB (l.getD (s - 1) 0 : Nat) (inl n : Nat) = true
      · have hu : sRes l n = (ext v (s * 7), s, 0) := by
          unfold sRes
          rw [hg, if_pos rfl, if_neg (by rw [← hsn, hx]; simp)]
        rw [hu]
        exact S_most b off l.length cap n v s _ w HG h0 h64 hsn hs1 hsl hc hx
      · have hx' : csB (l.getD (s - 1) 0 : Nat) (inl n : Nat) = false := by simpa using hx
        have hu : sRes l n = (0, 0, 2) := by
          unfold sRes
          rw [hg, if_pos rfl, if_pos (by rw [← hsn]; exact ⟨rfl, hx'⟩)]
        rw [hu]
        exact S_over b off l.length cap n v s _ w HG h0 h64 hsn hs1 hsl hc hx'
    · have hu : sRes l n = (ext v (s * 7), s, 0) := by
        unfold sRes
        rw [hg, if_pos rfl, if_neg (fun h => hsn h.1)]
      rw [hu]
      exact S_less A l.length cap n v s w HG h0 h64 hsn hs1 (by omega)
  · have hu : sRes l n = (0, 0, e) := by
      unfold sRes
      rw [hg, if_neg h]
    rw [hu]
    exact S_err A l.length cap n v s w e HG h
end Go.Proofs.Ytdipgokbfjbgfaa.Leb
