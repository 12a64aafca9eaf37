/-
  trammelref05.Block, BlockBytes: a block's type. Condition: the bytes lie in memory as a slice's cells.
-/
import Derived.Test.YthhdbjpimjkekaaTypVal
import Derived.Test.YthhdbjpimjkekaaLebRefPutS
namespace Go.Proofs.Ythhdbjpimjkekaa.Typ
open Go.RowKit Leb

/-- What Block answers: the type, how many bytes, the error. -/
def blockRes (l : List Nat) : Int × Nat × Nat :=
  if l.length < 1 then (0, 0, 1)
  else if l.getD 0 0 = 64 then (-64, 1, 0)
  else if (valOf (l.getD 0 0)).2 = 3 then (0, 0, 3)
  else if (valOf (l.getD 0 0)).2 = 0 then ((l.getD 0 0 : Int) - 128, 1, 0)
  else if (sRes l 33).2.2 ≠ 0 then (0, 0, (sRes l 33).2.2)
  else if (sRes l 33).1 < 0 then (0, 0, 2)
  else ((sRes l 33).1, (sRes l 33).2.1, 0)
def Block3 (w : World) (r : Int × Nat × Nat) (e : Ending) (w' : World) : Prop := e = .returned (.tuple #[.int .i64 r.1, .int .i64 (r.2.1 : Int), .int .i64 (r.2.2 : Int)]) ∧ Below w.heap.size w w'
set_option maxRecDepth 100000 in
theorem block_short (A : Option Addr) (c : Nat) (w : World) : Calls Try.prog 14 #[.slice A 0 c] w (Block3 w (0, 0, 1)) := by
  go_enter Try.func14, Try.ntmps14
  go_wp2
  go_ret3
  exact ⟨rfl, Below.refl _ _⟩
section
variable (b off len c x : Nat) (w : World) (hl : 1 ≤ len) (hc : w.cell? ⟨b, off, none⟩ = some (.int .u8 (x : Int)))
include hl hc
set_option maxRecDepth 100000 in
theorem block_empty (hx : ((x : Int) == 64) = true) : Calls Try.prog 14 #[.slice (some ⟨b, off, none⟩) len c] w (Block3 w (-64, 1, 0)) := by
  have hl1 : ¬ (len : Int) < 1 := by omega
  go_enter Try.func14, Try.ntmps14
  go_wp2
  go_ret3
  exact ⟨rfl, Below.refl _ _⟩
variable (hx : ((x : Int) == 64) = false)
include hx
set_option maxRecDepth 100000 in
theorem block_wide (t : Nat) (HV : Hid (∀ W, Calls Try.prog 16 #[.int .u8 (x : Int)] W (Val2 W (t, 3)))) : Calls Try.prog 14 #[.slice (some ⟨b, off, none⟩) len c] w (Block3 w (0, 0, 3)) := by
  have hl1 : ¬ (len : Int) < 1 := by omega
  go_enter Try.func14, Try.ntmps14
  go_wp2_with fail
  refine (HV.out _).mono ?_
  rintro e w1 ⟨rfl, rfl⟩
  go_wp2
  go_ret3
  exact ⟨rfl, Below.refl _ _⟩
set_option maxRecDepth 100000 in
theorem block_val (hxl : x < 256) (HV : Hid (∀ W, Calls Try.prog 16 #[.int .u8 (x : Int)] W (Val2 W (x, 0)))) : Calls Try.prog 14 #[.slice (some ⟨b, off, none⟩) len c] w (Block3 w ((x : Int) - 128, 1, 0)) := by
  have hl1 : ¬ (len : Int) < 1 := by omega
  have hxi : (x : Int) < 256 := by omega
  clear hxl
  go_enter Try.func14, Try.ntmps14
  go_wp2_with fail
  refine (HV.out _).mono ?_
  rintro e w1 ⟨rfl, rfl⟩
  go_wp2
  go_ret3
  exact ⟨rfl, Below.refl _ _⟩
variable (t : Nat) (HV : Hid (∀ W, Calls Try.prog 16 #[.int .u8 (x : Int)] W (Val2 W (t, 2)))) (n : Int) (s : Nat)
include HV
set_option maxRecDepth 100000 in
theorem block_err (er : Nat) (he : ((er : Int) != 0) = true) (HS : Hid (Calls Try.prog 35 #[.slice (some ⟨b, off, none⟩) len c, .int .i64 33] w (TellsS w (n, s, er)))) : Calls Try.prog 14 #[.slice (some ⟨b, off, none⟩) len c] w (Block3 w (0, 0, er)) := by
  have hl1 : ¬ (len : Int) < 1 := by omega
  go_enter Try.func14, Try.ntmps14
  go_wp2_with fail
  refine (HV.out _).mono ?_
  rintro e w1 ⟨rfl, rfl⟩
  go_wp2_with fail
  refine HS.out.mono ?_
  rintro e w2 ⟨rfl, hb2⟩
  go_wp2
  go_ret3
  exact ⟨rfl, hb2⟩
set_option maxRecDepth 100000 in
theorem block_neg (hn : n < 0) (HS : Hid (Calls Try.prog 35 #[.slice (some ⟨b, off, none⟩) len c, .int .i64 33] w (TellsS w (n, s, 0)))) : Calls Try.prog 14 #[.slice (some ⟨b, off, none⟩) len c] w (Block3 w (0, 0, 2)) := by
  have hl1 : ¬ (len : Int) < 1 := by omega
  go_enter Try.func14, Try.ntmps14
  go_wp2_with fail
  refine (HV.out _).mono ?_
  rintro e w1 ⟨rfl, rfl⟩
  go_wp2_with fail
  refine HS.out.mono ?_
  rintro e w2 ⟨rfl, hb2⟩
  go_wp2
  go_ret3
  exact ⟨rfl, hb2⟩
set_option maxRecDepth 100000 in
theorem block_num (hn : ¬ n < 0) (HS : Hid (Calls Try.prog 35 #[.slice (some ⟨b, off, none⟩) len c, .int .i64 33] w (TellsS w (n, s, 0)))) : Calls Try.prog 14 #[.slice (some ⟨b, off, none⟩) len c] w (Block3 w (n, s, 0)) := by
  have hl1 : ¬ (len : Int) < 1 := by omega
  go_enter Try.func14, Try.ntmps14
  go_wp2_with fail
  refine (HV.out _).mono ?_
  rintro e w1 ⟨rfl, rfl⟩
  go_wp2_with fail
  refine HS.out.mono ?_
  rintro e w2 ⟨rfl, hb2⟩
  go_wp2
  go_ret3
  exact ⟨rfl, hb2⟩
end
theorem rblock_any (A : Option Addr) (l : List Nat) (c : Nat) (w : World) (hb : Bytes w w.heap.size A l) :
    Calls Try.prog 14 #[.slice A l.length c] w (Block3 w (blockRes l)) := by
  unfold blockRes
  by_cases h0 : l.length < 1
  · have hl : l.length = 0 := by omega
    rw [if_pos h0, hl]
    exact block_short A c w
  rw [if_neg h0]
  obtain ⟨b, off, rfl, hbl, hcs⟩ := hb.2 (by omega)
  have hc := hcs 0 (by omega)
  have hd : l.getD 0 0 = l[0] := by simp [List.getD, List.getElem?_eq_getElem (show 0 < l.length by omega)]
  have hx256 := hb.1 _ (List.getElem_mem (show 0 < l.length by omega))
  rw [hd]
  rw [Nat.add_zero] at hc
  have HV := Lib.hid (fun W => val_any l[0] W)
  have HS := Lib.hid (rS_any _ l c 33 w hb (by omega) (by omega))
  by_cases hx : l[0] = 64
  · rw [if_pos hx]
    exact block_empty b off l.length c l[0] w (by omega) hc (by simp [hx])
  rw [if_neg hx]
  have hx1 : (((l[0] : Nat) : Int) == 64) = false := by simp; omega
  rcases valOf_cases l[0] with ⟨h, _⟩ | h | h
  · rw [h] at HV ⊢
    rw [if_neg (by simp), if_pos rfl]
    exact block_val b off l.length c l[0] w (by omega) hc hx1 hx256 HV
  · rw [h] at HV ⊢
    rw [if_pos rfl]
    exact block_wide b off l.length c l[0] w (by omega) hc hx1 _ HV
  · rw [h] at HV ⊢
    rw [if_neg (by simp), if_neg (by simp)]
    generalize sRes l 33 = g at *
    obtain ⟨n, s, e⟩ := g
    simp only
    by_cases he : e = 0
    · subst he
      rw [if_neg (by simp)]
      by_cases hn : n < 0
      · rw [if_pos hn]
        exact block_neg b off l.length c l[0] w (by omega) hc hx1 _ HV n s hn HS
      · rw [if_neg hn]
        exact block_num b off l.length c l[0] w (by omega) hc hx1 _ HV n s hn HS
    · rw [if_pos he]
      exact block_err b off l.length c l[0] w (by omega) hc hx1 _ HV n s e (by simp; omega) HS
theorem blockBytes_any (t : Int) (w : World) (ht : -9223372036854775808 ≤ t ∧ t ≤ 9223372036854775807) : Calls Try.prog 27 #[.int .i64 t] w (Gives w (putS t)) := by
  have HP := Lib.hid (rputS_any t w ht)
  clear ht
  go_enter Try.func27, Try.ntmps27
  go_wp2_with fail
  refine HP.out.mono ?_
  rintro e w1 ⟨v, rfl, hown, hb⟩
  go_wp2
  go_ret
  exact ⟨v, rfl, hown, hb⟩
end Go.Proofs.Ythhdbjpimjkekaa.Typ
