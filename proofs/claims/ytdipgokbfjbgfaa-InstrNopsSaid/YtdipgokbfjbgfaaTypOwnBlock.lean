/-
  typ.blockNumber, typ.Block: what each comes to. Condition: the slice leads to bytes, at most 1000.
-/
import Derived.Test.YtdipgokbfjbgfaaTypOwnVal
import Derived.Test.YtdipgokbfjbgfaaTypTells
namespace Go.Proofs.Ytdipgokbfjbgfaa.Typ
open Go.RowKit Leb

section
variable (A : Option Addr) (len c : Nat) (w : World) (n : Int) (s : Nat)
theorem onum_err (er : Nat) (he : ((er : Int) != 0) = true) (HS : Hid (Calls Try.prog 77 #[.slice A len c, .int .i64 33] w (TellsS w (n, s, er)))) : Calls Try.prog 94 #[.slice A len c] w (Block3 w (0, 0, er)) := by
  go_enter Try.func94, Try.ntmps94
  go_wp2_with fail
  refine HS.out.mono ?_
  rintro e w1 ⟨rfl, hb1⟩
  go_wp2
  go_ret3
  exact ⟨rfl, hb1⟩
theorem onum_neg (hn : n < 0) (HS : Hid (Calls Try.prog 77 #[.slice A len c, .int .i64 33] w (TellsS w (n, s, 0)))) : Calls Try.prog 94 #[.slice A len c] w (Block3 w (0, 0, 2)) := by
  go_enter Try.func94, Try.ntmps94
  go_wp2_with fail
  refine HS.out.mono ?_
  rintro e w1 ⟨rfl, hb1⟩
  go_wp2
  go_ret3
  exact ⟨rfl, hb1⟩
theorem onum_ok (hn : ¬ n < 0) (HS : Hid (Calls Try.prog 77 #[.slice A len c, .int .i64 33] w (TellsS w (n, s, 0)))) : Calls Try.prog 94 #[.slice A len c] w (Block3 w (n, s, 0)) := by
  go_enter Try.func94, Try.ntmps94
  go_wp2_with fail
  refine HS.out.mono ?_
  rintro e w1 ⟨rfl, hb1⟩
  go_wp2
  go_ret3
  exact ⟨rfl, hb1⟩
end
theorem onum_any (A : Option Addr) (l : List Nat) (c B : Nat) (w : World) (hb : Bytes w B A l) : Calls Try.prog 94 #[.slice A l.length c] w (Block3 w (numRes l)) := by
  have HS := Lib.hid (S_below A l c B 33 w hb (by omega) (by omega))
  unfold numRes
  generalize sRes l 33 = g at *
  obtain ⟨n, s, e⟩ := g
  simp only
  by_cases he : e = 0
  · subst he
    rw [if_neg (by simp)]
    by_cases hn : n < 0
    · rw [if_pos hn]; exact onum_neg A l.length c w n s hn HS
    · rw [if_neg hn]; exact onum_ok A l.length c w n s hn HS
  · rw [if_pos he]; exact onum_err A l.length c w n s e (by simp; omega) HS
section
variable (A : Option Addr) (len c : Nat) (w : World) (bg : Nat) (HG : Hid (∀ W g, Below w.heap.size w W → W.heap.size = g → Calls Try.prog 92 #[.slice A len c, .slice (some ⟨g, 0, none⟩) 1 1] (W.alloc (.cells #[.int .u8 64] 5)) (Same1 (W.alloc (.cells #[.int .u8 64] 5)) (.int .i64 (bg : Int)))))
include HG
theorem oblk_empty (hbg : bg = 0) : Calls Try.prog 74 #[.slice A len c] w (Block3 w (-64, 1, 0)) := by
  subst hbg
  have hb1 : Below w.heap.size w (w.alloc (.cells #[.int .u8 64] 5)) := (Below.refl _ _).alloc (Nat.le_refl _) _
  go_enter Try.func74, Try.ntmps74
  go_wp2_with fail
  refine (HG.out _ _ (Below.refl _ _) rfl).mono ?_
  rintro e w1 ⟨rfl, rfl⟩
  go_wp2
  go_ret3
  exact ⟨rfl, hb1⟩
variable (hbg : ((bg : Int) == 0) = false) (t s : Nat)
include hbg
theorem oblk_err (er : Nat) (he : ((er : Int) != 0) = true) (he2 : ((er : Int) == 2) = false) (HV : Hid (∀ W, Below w.heap.size w W → Calls Try.prog 93 #[.slice A len c] W (ValS W (t, s, er)))) : Calls Try.prog 74 #[.slice A len c] w (Block3 w (0, 0, er)) := by
  have hb1 : Below w.heap.size w (w.alloc (.cells #[.int .u8 64] 5)) := (Below.refl _ _).alloc (Nat.le_refl _) _
  go_enter Try.func74, Try.ntmps74
  go_wp2_with fail
  refine (HG.out _ _ (Below.refl _ _) rfl).mono ?_
  rintro e w1 ⟨rfl, rfl⟩
  go_wp2_with fail
  refine (HV.out _ hb1).mono ?_
  rintro e w2 ⟨rfl, rfl⟩
  go_wp2
  go_ret3
  exact ⟨rfl, hb1⟩
theorem oblk_val (ht : t < 256) (HV : Hid (∀ W, Below w.heap.size w W → Calls Try.prog 93 #[.slice A len c] W (ValS W (t, s, 0)))) : Calls Try.prog 74 #[.slice A len c] w (Block3 w ((t : Int) - 128, s, 0)) := by
  have hb1 : Below w.heap.size w (w.alloc (.cells #[.int .u8 64] 5)) := (Below.refl _ _).alloc (Nat.le_refl _) _
  have hti : (t : Int) < 256 := by omega
  clear ht
  go_enter Try.func74, Try.ntmps74
  go_wp2_with fail
  refine (HG.out _ _ (Below.refl _ _) rfl).mono ?_
  rintro e w1 ⟨rfl, rfl⟩
  go_wp2_with fail
  refine (HV.out _ hb1).mono ?_
  rintro e w2 ⟨rfl, rfl⟩
  go_wp2
  go_ret3
  exact ⟨rfl, hb1⟩
theorem oblk_num (n : Int) (s2 er : Nat) (HV : Hid (∀ W, Below w.heap.size w W → Calls Try.prog 93 #[.slice A len c] W (ValS W (t, s, 2)))) (HN : Hid (∀ W, Below w.heap.size w W → Calls Try.prog 94 #[.slice A len c] W (Block3 W (n, s2, er)))) : Calls Try.prog 74 #[.slice A len c] w (Block3 w (n, s2, er)) := by
  have hb1 : Below w.heap.size w (w.alloc (.cells #[.int .u8 64] 5)) := (Below.refl _ _).alloc (Nat.le_refl _) _
  go_enter Try.func74, Try.ntmps74
  go_wp2_with fail
  refine (HG.out _ _ (Below.refl _ _) rfl).mono ?_
  rintro e w1 ⟨rfl, rfl⟩
  go_wp2_with fail
  refine (HV.out _ hb1).mono ?_
  rintro e w2 ⟨rfl, rfl⟩
  go_wp2_with fail
  refine (HN.out _ hb1).mono ?_
  rintro e w3 ⟨rfl, hb3⟩
  have hb4 := hb1.trans (hb3.mono hb1.size)
  clear hb1 hb3
  go_wp2
  go_ret3
  exact ⟨rfl, hb4⟩
end
theorem oblock_any (A : Option Addr) (l : List Nat) (c : Nat) (w : World) (hb : Bytes w w.heap.size A l) :
    Calls Try.prog 74 #[.slice A l.length c] w (Block3 w (blockRes l)) := by
  have HG := Lib.hid (fun W g hW hg => bg_lit A l [64] c 1 w 5 #[.int .u8 64] hb (by simp) rfl rfl (by omega) W g hW hg)
  have HV : Hid (∀ W, Below w.heap.size w W → Calls Try.prog 93 #[.slice A l.length c] W (ValS W (valRes l))) := Lib.hid fun W hW => oval_same A l c w.heap.size W (hb.below hW)
  have HN : Hid (∀ W, Below w.heap.size w W → Calls Try.prog 94 #[.slice A l.length c] W (Block3 W (numRes l))) := Lib.hid fun W hW => onum_any A l c w.heap.size W (hb.below hW)
  unfold blockRes
  unfold bgRes at HG
  unfold valRes at HV
  by_cases h0 : l.length < 1
  · rw [if_pos h0] at HG HV
    rw [if_pos h0]
    exact oblk_err A l.length c w 1 HG (by decide) 0 0 1 (by decide) (by decide) HV
  rw [if_neg h0] at HG HV
  rw [if_neg h0]
  have hx256 : l.getD 0 0 < 256 := by
    have hd : l.getD 0 0 = l[0] := by simp [List.getD, List.getElem?_eq_getElem (show 0 < l.length by omega)]
    rw [hd]; exact hb.1 _ (List.getElem_mem _)
  by_cases hx : l.getD 0 0 = 64
  · rw [if_pos (List.mem_singleton.2 hx)] at HG
    rw [if_pos hx]
    exact oblk_empty A l.length c w 0 HG rfl
  rw [if_neg (fun h => hx (List.mem_singleton.1 h))] at HG
  rw [if_neg hx]
  rcases valOf_cases (l.getD 0 0) with ⟨h, _⟩ | h | h
  · rw [h] at HV ⊢
    rw [if_pos rfl] at HV
    rw [if_neg (by simp), if_pos rfl]
    exact oblk_val A l.length c w 2 HG (by decide) _ 1 hx256 HV
  · rw [h] at HV ⊢
    rw [if_neg (by simp)] at HV
    rw [if_pos rfl]
    exact oblk_err A l.length c w 2 HG (by decide) 0 0 3 (by decide) (by decide) HV
  · rw [h] at HV ⊢
    rw [if_neg (by simp)] at HV
    rw [if_neg (by simp), if_neg (by simp)]
    exact oblk_num A l.length c w 2 HG (by decide) 0 0 _ _ _ HV HN
end Go.Proofs.Ytdipgokbfjbgfaa.Typ
