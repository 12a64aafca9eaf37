/-
  typ.PutBlock: what it comes to. Conditions: the slice leads to bytes (at most 1000); the number is of 64 bits.
-/
import Derived.Test.YtdipgokbfjbgfaaTypOwnIs
import Derived.Test.YtdipgokbfjbgfaaLebPutS
namespace Go.Proofs.Ytdipgokbfjbgfaa.Typ
open Go.RowKit Leb

section
variable (A : Option Addr) (l : List Nat) (len c k : Nat) (w : World)
set_option maxHeartbeats 2000000 in
set_option maxRecDepth 100000 in
theorem oputb_e (HP : Hid (Calls Try.prog 45 #[.slice A len c, .int .i64 (-64)] w (GivesB w (l ++ putS (-64)) k))) :
    Calls Try.prog 43 #[.slice A len c, .int .i64 (-64)] w (PutIs w (l ++ putS (-64)) k 0) := by
  go_enter Try.func43, Try.ntmps43
  go_wp2_with fail
  refine HP.out.mono ?_
  rintro e w1 ⟨B1, cb1, rfl, hown1, hB1, hz1, hc1, hb1⟩
  go_wp2
  go_ret2
  exact putIs_of hown1 (Nat.le_refl _) hB1 hz1 hc1 hb1
set_option maxHeartbeats 2000000 in
set_option maxRecDepth 100000 in
theorem oputb_a (HP : Hid (Calls Try.prog 45 #[.slice A len c, .int .i64 (-1)] w (GivesB w (l ++ putS (-1)) k))) :
    Calls Try.prog 43 #[.slice A len c, .int .i64 (-1)] w (PutIs w (l ++ putS (-1)) k 0) := by
  go_enter Try.func43, Try.ntmps43
  go_wp2_with fail
  refine HP.out.mono ?_
  rintro e w1 ⟨B1, cb1, rfl, hown1, hB1, hz1, hc1, hb1⟩
  go_wp2
  go_ret2
  exact putIs_of hown1 (Nat.le_refl _) hB1 hz1 hc1 hb1
set_option maxHeartbeats 2000000 in
set_option maxRecDepth 100000 in
theorem oputb_b (HP : Hid (Calls Try.prog 45 #[.slice A len c, .int .i64 (-2)] w (GivesB w (l ++ putS (-2)) k))) :
    Calls Try.prog 43 #[.slice A len c, .int .i64 (-2)] w (PutIs w (l ++ putS (-2)) k 0) := by
  go_enter Try.func43, Try.ntmps43
  go_wp2_with fail
  refine HP.out.mono ?_
  rintro e w1 ⟨B1, cb1, rfl, hown1, hB1, hz1, hc1, hb1⟩
  go_wp2
  go_ret2
  exact putIs_of hown1 (Nat.le_refl _) hB1 hz1 hc1 hb1
set_option maxHeartbeats 2000000 in
set_option maxRecDepth 100000 in
theorem oputb_yes (t : Int) (t64 : (t != -64) = true) (t1 : (t != -1) = true) (t2 : (t != -2) = true) (H1 : Hid (∀ W, Calls Try.prog 63 #[.int .i64 t] W (Same1 W (.bool true)))) (HP : Hid (Calls Try.prog 45 #[.slice A len c, .int .i64 t] w (GivesB w (l ++ putS t) k))) :
    Calls Try.prog 43 #[.slice A len c, .int .i64 t] w (PutIs w (l ++ putS t) k 0) := by
  go_enter Try.func43, Try.ntmps43
  go_wp2_with fail
  refine (H1.out _).mono ?_
  rintro e w1 ⟨rfl, rfl⟩
  go_wp2_with fail
  refine HP.out.mono ?_
  rintro e w1 ⟨B1, cb1, rfl, hown1, hB1, hz1, hc1, hb1⟩
  go_wp2
  go_ret2
  exact putIs_of hown1 (Nat.le_refl _) hB1 hz1 hc1 hb1
set_option maxHeartbeats 2000000 in
set_option maxRecDepth 100000 in
theorem oputb_no (t : Int) (t64 : (t != -64) = true) (t1 : (t != -1) = true) (t2 : (t != -2) = true) (H1 : Hid (∀ W, Calls Try.prog 63 #[.int .i64 t] W (Same1 W (.bool false)))) :
    Calls Try.prog 43 #[.slice A len c, .int .i64 t] w (PutIs w [] 0 2) := by
  go_enter Try.func43, Try.ntmps43
  go_wp2_with fail
  refine (H1.out _).mono ?_
  rintro e w1 ⟨rfl, rfl⟩
  go_wp2
  go_ret2
  exact putIs_nil (Below.refl _ _)
end
theorem oputb_any (A : Option Addr) (l : List Nat) (c k : Nat) (t : Int) (w : World) (hs : Slc w A c l) (hl : l.length ≤ 1000) (ht : I64 t) (hk : (putRes (rightBlock t) l (putS t)).1.length = k) :
    Calls Try.prog 43 #[.slice A l.length c, .int .i64 t] w (PutIs w (putRes (rightBlock t) l (putS t)).1 k (putRes (rightBlock t) l (putS t)).2) := by
  have HP : (l ++ putS t).length = k → Hid (Calls Try.prog 45 #[.slice A l.length c, .int .i64 t] w (GivesB w (l ++ putS t) k)) := fun h => Lib.hid ((putS_any A l c t w hs.bytes hs.nil (by omega) ht).mono fun e w' h' => gives_bb h' (fun y hy => (List.mem_append.1 hy).elim (hs.bytes.1 y) (putS_lt t y)) h)
  have H1 := Lib.hid (fun W => isNum_any t W)
  by_cases hR : rightBlock t = true
  · rw [hR] at hk ⊢
    have HP' := HP hk
    by_cases h1 : t = -64
    · subst h1; exact oputb_e A l l.length c k w HP'
    by_cases h2 : t = -1
    · subst h2; exact oputb_a A l l.length c k w HP'
    by_cases h3 : t = -2
    · subst h3; exact oputb_b A l l.length c k w HP'
    have hin : 0 ≤ t ∧ t ≤ 4294967295 := by
      have := of_decide_eq_true hR
      omega
    rw [decide_eq_true hin] at H1
    exact oputb_yes A l l.length c k w t (by simp [h1]) (by simp [h2]) (by simp [h3]) H1 HP'
  · have hR' : rightBlock t = false := by simpa using hR
    rw [hR'] at hk ⊢
    obtain rfl : 0 = k := hk
    have hno := of_decide_eq_false hR'
    rw [decide_eq_false (fun h => hno (by omega))] at H1
    exact oputb_no A l.length c w t (by simp; omega) (by simp; omega) (by simp; omega) H1
end Go.Proofs.Ytdipgokbfjbgfaa.Typ
