/-
  typ.Limits: what it comes to. Condition: the slice leads to bytes, at most 1000.
-/
import Derived.Test.YthhdbjpimjkekaaTypOwnFunc
namespace Go.Proofs.Ythhdbjpimjkekaa.Typ
open Go.RowKit Leb

/-- What Limits has laid when it reads: the result, untouched; all that was there. -/
structure LmAt (w W : World) : Prop where
  below : Below w.heap.size w W
  size : w.heap.size < W.heap.size
  r0 : W.cell? ⟨w.heap.size, 0, none⟩ = some (.int .i64 0)
  r1 : W.cell? ⟨w.heap.size, 1, none⟩ = some (.bool false)
  r2 : W.cell? ⟨w.heap.size, 2, none⟩ = some (.int .i64 0)
  z0 : W.frozen? ⟨w.heap.size, 0, none⟩ = false
  z1 : W.frozen? ⟨w.heap.size, 1, none⟩ = false
  z2 : W.frozen? ⟨w.heap.size, 2, none⟩ = false
theorem LmAt.keep {w W W' : World} (h : LmAt w W) (h' : Below W.heap.size W W') : LmAt w W' := by
  have hs := h.size
  have C : ∀ p : Addr, p.block = w.heap.size → W'.cell? p = W.cell? p := fun p hp => h'.cell (by omega)
  have F : ∀ p : Addr, p.block = w.heap.size → W'.frozen? p = W.frozen? p := fun p hp => h'.frozen (by omega)
  exact ⟨h.below.trans (h'.mono h.below.size), Nat.lt_of_lt_of_le h.size h'.size, (C _ rfl).trans h.r0, (C _ rfl).trans h.r1, (C _ rfl).trans h.r2, (F _ rfl).trans h.z0, (F _ rfl).trans h.z1, (F _ rfl).trans h.z2⟩
theorem lmat_of (w : World) (t : TypeId) (o : Obj) : LmAt w ((w.alloc (.cells #[.int .i64 0, .bool false, .int .i64 0] t)).alloc o) := by
  have hr := (MapKept.heap_alloc w (.cells #[.int .i64 0, .bool false, .int .i64 0] t)).1
  have h1 : LmAt w (w.alloc (.cells #[.int .i64 0, .bool false, .int .i64 0] t)) := by
    refine ⟨(Below.refl _ _).alloc (Nat.le_refl _) _, by simp, ?_, ?_, ?_, ?_, ?_, ?_⟩
    · simp only [World.cell?, hr]; rfl
    · simp only [World.cell?, hr]; rfl
    · simp only [World.cell?, hr]; rfl
    · simp only [World.frozen?, hr]; rfl
    · simp only [World.frozen?, hr]; rfl
    · simp only [World.frozen?, hr]; rfl
  exact h1.keep ((Below.refl _ _).alloc (Nat.le_refl _) _)
section
variable (A : Option Addr) (len c : Nat) (w : World)
set_option maxHeartbeats 1000000 in
set_option maxRecDepth 100000 in
theorem olim_bad (er : Nat) (he : ((er : Int) != 0) = true) (HG : Hid (∀ W g, Below w.heap.size w W → W.heap.size = g → Calls Try.prog 28 #[.slice A len c, .slice (some ⟨g, 0, none⟩) 2 2] (W.alloc (.cells #[.int .u8 0, .int .u8 1] 5)) (Same1 (W.alloc (.cells #[.int .u8 0, .int .u8 1] 5)) (.int .i64 (er : Int))))) :
    Calls Try.prog 11 #[.slice A len c] w (Lim3 w 0 false 0 0 er) := by
  have HF := Lib.hid (lmat_of w 34 (.cells #[.int .u8 0, .int .u8 1] 5))
  have hbel : Below w.heap.size w (w.alloc (.cells #[.int .i64 0, .bool false, .int .i64 0] 34)) := (Below.refl _ _).alloc (Nat.le_refl _) _
  go_enter Try.func11, Try.ntmps11
  go_wp2_with fail
  refine (HG.out _ _ hbel (by simp)).mono ?_
  rintro e w1 ⟨rfl, rfl⟩
  clear HG hbel
  generalize (w.alloc _).alloc _ = W at *
  obtain ⟨_, _, r0, r1, r2, z0, z1, z2⟩ := HF.out
  go_wp2
  refine bodyPost_ret (v := .tuple #[limV 0 false 0, .int .i64 0, .int .i64 (er : Int)]) (by simp [results, Try.results11, go_sem, limV, r0, r1, r2]) rfl ?_
  exact ⟨rfl, ((HF.out.below.setCell (Nat.le_refl _) _).setCell (Nat.le_refl _) _).setCell (Nat.le_refl _) _⟩
end
section
variable (b off len c x u s : Nat) (w : World) (HG : Hid (∀ W g, Below w.heap.size w W → W.heap.size = g → Calls Try.prog 28 #[.slice (some ⟨b, off, none⟩) len c, .slice (some ⟨g, 0, none⟩) 2 2] (W.alloc (.cells #[.int .u8 0, .int .u8 1] 5)) (Same1 (W.alloc (.cells #[.int .u8 0, .int .u8 1] 5)) (.int .i64 0)))) (hl : 1 ≤ len) (HC : Hid (∀ W, Below w.heap.size w W → W.cell? ⟨b, off, none⟩ = some (.int .u8 (x : Int))))
include HG hl
set_option maxHeartbeats 1000000 in
set_option maxRecDepth 100000 in
theorem olim_over1 (hc : c = 1) (hlen : len = 1) (HU : Hid (∀ W A c', Calls Try.prog 32 #[.slice A 0 c', .int .i64 32] W (TellsU W (0, 0, 1)))) :
    Calls Try.prog 11 #[.slice (some ⟨b, off, none⟩) len c] w (Lim3 w 0 false 0 0 1) := by
  subst hc hlen
  have HF := Lib.hid (lmat_of w 34 (.cells #[.int .u8 0, .int .u8 1] 5))
  have hbel : Below w.heap.size w (w.alloc (.cells #[.int .i64 0, .bool false, .int .i64 0] 34)) := (Below.refl _ _).alloc (Nat.le_refl _) _
  go_enter Try.func11, Try.ntmps11
  go_wp2_with fail
  refine (HG.out _ _ hbel (by simp)).mono ?_
  rintro e w1 ⟨rfl, rfl⟩
  clear HG hbel
  generalize (w.alloc _).alloc _ = W at *
  go_wp2_with fail
  refine (HU.out _ _ _).mono ?_
  rintro e w1 ⟨rfl, hb⟩
  have HF1 := Lib.hid (HF.out.keep hb)
  clear hb HU HF
  obtain ⟨_, _, r0, r1, r2, z0, z1, z2⟩ := HF1.out
  go_wp2
  refine bodyPost_ret (v := .tuple #[limV 0 false 0, .int .i64 0, .int .i64 1]) (by simp [results, Try.results11, go_sem, limV, r0, r1, r2]) rfl ?_
  exact ⟨rfl, ((HF1.out.below.setCell (Nat.le_refl _) _).setCell (Nat.le_refl _) _).setCell (Nat.le_refl _) _⟩
variable (h1c : 1 < c)
include h1c
set_option maxHeartbeats 1000000 in
set_option maxRecDepth 100000 in
theorem olim_err1 (er : Nat) (he : ((er : Int) != 0) = true) (HU : Hid (∀ W, Below w.heap.size w W → Calls Try.prog 32 #[.slice (some ⟨b, off + 1, none⟩) (len - 1) (c - 1), .int .i64 32] W (TellsU W (u, s, er)))) :
    Calls Try.prog 11 #[.slice (some ⟨b, off, none⟩) len c] w (Lim3 w 0 false 0 0 er) := by
  have hli : (1 : Int) ≤ (len : Int) := by omega
  have HF := Lib.hid (lmat_of w 34 (.cells #[.int .u8 0, .int .u8 1] 5))
  have hbel : Below w.heap.size w (w.alloc (.cells #[.int .i64 0, .bool false, .int .i64 0] 34)) := (Below.refl _ _).alloc (Nat.le_refl _) _
  go_enter Try.func11, Try.ntmps11
  go_wp2_with fail
  refine (HG.out _ _ hbel (by simp)).mono ?_
  rintro e w1 ⟨rfl, rfl⟩
  clear HG hbel
  generalize (w.alloc _).alloc _ = W at *
  go_wp2_with fail
  refine (HU.out _ HF.out.below).mono ?_
  rintro e w1 ⟨rfl, hb⟩
  have HF1 := Lib.hid (HF.out.keep hb)
  clear hb HU HF
  obtain ⟨_, _, r0, r1, r2, z0, z1, z2⟩ := HF1.out
  go_wp2
  refine bodyPost_ret (v := .tuple #[limV 0 false 0, .int .i64 0, .int .i64 (er : Int)]) (by simp [results, Try.results11, go_sem, limV, r0, r1, r2]) rfl ?_
  exact ⟨rfl, ((HF1.out.below.setCell (Nat.le_refl _) _).setCell (Nat.le_refl _) _).setCell (Nat.le_refl _) _⟩
variable (HU : Hid (∀ W, Below w.heap.size w W → Calls Try.prog 32 #[.slice (some ⟨b, off + 1, none⟩) (len - 1) (c - 1), .int .i64 32] W (TellsU W (u, s, 0)))) (p : Nat) (hp : 1 + s = p) (hpl : p ≤ len) (hp0 : p ≤ 100000) (hu : u < 4294967296)
include HC HU hp hpl hp0 hu
set_option maxHeartbeats 1000000 in
set_option maxRecDepth 100000 in
theorem olim_un (hx : x = 0) :
    Calls Try.prog 11 #[.slice (some ⟨b, off, none⟩) len c] w (Lim3 w u false 0 p 0) := by
  subst hx
  have hli : (1 : Int) ≤ (len : Int) := by omega
  have hl1 : (0 : Int) < (len : Int) := by omega
  have hlp : (p : Int) ≤ (len : Int) := by omega
  have hsum : (1 : Int) + (s : Int) = (p : Int) := by omega
  have huw : wrap64 (u : Int) = (u : Int) := IntWalk.wrap64_in _ (by omega)
  clear hu
  have HF := Lib.hid (lmat_of w 34 (.cells #[.int .u8 0, .int .u8 1] 5))
  have hbel : Below w.heap.size w (w.alloc (.cells #[.int .i64 0, .bool false, .int .i64 0] 34)) := (Below.refl _ _).alloc (Nat.le_refl _) _
  go_enter Try.func11, Try.ntmps11
  go_wp2_with fail
  refine (HG.out _ _ hbel (by simp)).mono ?_
  rintro e w1 ⟨rfl, rfl⟩
  clear HG hbel
  generalize (w.alloc _).alloc _ = W at *
  go_wp2_with fail
  refine (HU.out _ HF.out.below).mono ?_
  rintro e w1 ⟨rfl, hb⟩
  have HF1 := Lib.hid (HF.out.keep hb)
  clear hb HU HF
  have hfi := HC.out _ HF1.out.below
  clear HC
  obtain ⟨_, _, r0, r1, r2, z0, z1, z2⟩ := HF1.out
  go_wp2
  refine bodyPost_ret (v := .tuple #[limV (u : Int) false 0, .int .i64 (p : Int), .int .i64 0]) (by simp [results, Try.results11, go_sem, limV, r0, r1, r2]) rfl ?_
  exact ⟨rfl, ((HF1.out.below.setCell (Nat.le_refl _) _).setCell (Nat.le_refl _) _).setCell (Nat.le_refl _) _⟩
variable (hx : x = 1)
include hx
set_option maxHeartbeats 1000000 in
set_option maxRecDepth 100000 in
theorem olim_over2 (hpc : p = c) (hpl2 : p = len) (HU2 : Hid (∀ W A c', Calls Try.prog 32 #[.slice A 0 c', .int .i64 32] W (TellsU W (0, 0, 1)))) :
    Calls Try.prog 11 #[.slice (some ⟨b, off, none⟩) len c] w (Lim3 w 0 false 0 0 1) := by
  subst hx hpc hpl2
  have hli : (1 : Int) ≤ (p : Int) := by omega
  have hl1 : (0 : Int) < (p : Int) := by omega
  have hsum : (1 : Int) + (s : Int) = (p : Int) := by omega
  have huw : wrap64 (u : Int) = (u : Int) := IntWalk.wrap64_in _ (by omega)
  clear hu
  have HF := Lib.hid (lmat_of w 34 (.cells #[.int .u8 0, .int .u8 1] 5))
  have hbel : Below w.heap.size w (w.alloc (.cells #[.int .i64 0, .bool false, .int .i64 0] 34)) := (Below.refl _ _).alloc (Nat.le_refl _) _
  go_enter Try.func11, Try.ntmps11
  go_wp2_with fail
  refine (HG.out _ _ hbel (by simp)).mono ?_
  rintro e w1 ⟨rfl, rfl⟩
  clear HG hbel
  generalize (w.alloc _).alloc _ = W at *
  go_wp2_with fail
  refine (HU.out _ HF.out.below).mono ?_
  rintro e w1 ⟨rfl, hb⟩
  have HF1 := Lib.hid (HF.out.keep hb)
  clear hb HU HF
  have hfi := HC.out _ HF1.out.below
  clear HC
  go_wp2_with fail
  refine (HU2.out _ _ _).mono ?_
  rintro e w3 ⟨rfl, hb⟩
  clear hfi
  have HF3 := Lib.hid (HF1.out.keep hb)
  clear hb HU2 HF1
  obtain ⟨_, _, r0, r1, r2, z0, z1, z2⟩ := HF3.out
  go_wp2
  refine bodyPost_ret (v := .tuple #[limV 0 false 0, .int .i64 0, .int .i64 1]) (by simp [results, Try.results11, go_sem, limV, r0, r1, r2]) rfl ?_
  exact ⟨rfl, ((HF3.out.below.setCell (Nat.le_refl _) _).setCell (Nat.le_refl _) _).setCell (Nat.le_refl _) _⟩
variable (hpc : p < c) (u2 s2 : Nat)
include hpc
set_option maxHeartbeats 1000000 in
set_option maxRecDepth 100000 in
theorem olim_err2 (er : Nat) (he : ((er : Int) != 0) = true) (HU2 : Hid (∀ W, Below w.heap.size w W → Calls Try.prog 32 #[.slice (some ⟨b, off + p, none⟩) (len - p) (c - p), .int .i64 32] W (TellsU W (u2, s2, er)))) :
    Calls Try.prog 11 #[.slice (some ⟨b, off, none⟩) len c] w (Lim3 w 0 false 0 0 er) := by
  subst hx
  have hli : (1 : Int) ≤ (len : Int) := by omega
  have hl1 : (0 : Int) < (len : Int) := by omega
  have hlp : (p : Int) ≤ (len : Int) := by omega
  have hsum : (1 : Int) + (s : Int) = (p : Int) := by omega
  have huw : wrap64 (u : Int) = (u : Int) := IntWalk.wrap64_in _ (by omega)
  clear hu
  have HF := Lib.hid (lmat_of w 34 (.cells #[.int .u8 0, .int .u8 1] 5))
  have hbel : Below w.heap.size w (w.alloc (.cells #[.int .i64 0, .bool false, .int .i64 0] 34)) := (Below.refl _ _).alloc (Nat.le_refl _) _
  go_enter Try.func11, Try.ntmps11
  go_wp2_with fail
  refine (HG.out _ _ hbel (by simp)).mono ?_
  rintro e w1 ⟨rfl, rfl⟩
  clear HG hbel
  generalize (w.alloc _).alloc _ = W at *
  go_wp2_with fail
  refine (HU.out _ HF.out.below).mono ?_
  rintro e w1 ⟨rfl, hb⟩
  have HF1 := Lib.hid (HF.out.keep hb)
  clear hb HU HF
  have hfi := HC.out _ HF1.out.below
  clear HC
  go_wp2_with fail
  refine (HU2.out _ HF1.out.below).mono ?_
  rintro e w3 ⟨rfl, hb⟩
  clear hfi
  have HF3 := Lib.hid (HF1.out.keep hb)
  clear hb HU2 HF1
  obtain ⟨_, _, r0, r1, r2, z0, z1, z2⟩ := HF3.out
  go_wp2
  refine bodyPost_ret (v := .tuple #[limV 0 false 0, .int .i64 0, .int .i64 (er : Int)]) (by simp [results, Try.results11, go_sem, limV, r0, r1, r2]) rfl ?_
  exact ⟨rfl, ((HF3.out.below.setCell (Nat.le_refl _) _).setCell (Nat.le_refl _) _).setCell (Nat.le_refl _) _⟩
set_option maxHeartbeats 1000000 in
set_option maxRecDepth 100000 in
theorem olim_ok (q3 : Nat) (hq3 : p + s2 = q3) (hq30 : q3 ≤ 100000) (hu2 : u2 < 4294967296) (HU2 : Hid (∀ W, Below w.heap.size w W → Calls Try.prog 32 #[.slice (some ⟨b, off + p, none⟩) (len - p) (c - p), .int .i64 32] W (TellsU W (u2, s2, 0)))) :
    Calls Try.prog 11 #[.slice (some ⟨b, off, none⟩) len c] w (Lim3 w u true u2 q3 0) := by
  subst hx
  have huw2 : wrap64 (u2 : Int) = (u2 : Int) := IntWalk.wrap64_in _ (by omega)
  have hsum2 : (p : Int) + (s2 : Int) = (q3 : Int) := by omega
  clear hu2
  have hli : (1 : Int) ≤ (len : Int) := by omega
  have hl1 : (0 : Int) < (len : Int) := by omega
  have hlp : (p : Int) ≤ (len : Int) := by omega
  have hsum : (1 : Int) + (s : Int) = (p : Int) := by omega
  have huw : wrap64 (u : Int) = (u : Int) := IntWalk.wrap64_in _ (by omega)
  clear hu
  have HF := Lib.hid (lmat_of w 34 (.cells #[.int .u8 0, .int .u8 1] 5))
  have hbel : Below w.heap.size w (w.alloc (.cells #[.int .i64 0, .bool false, .int .i64 0] 34)) := (Below.refl _ _).alloc (Nat.le_refl _) _
  go_enter Try.func11, Try.ntmps11
  go_wp2_with fail
  refine (HG.out _ _ hbel (by simp)).mono ?_
  rintro e w1 ⟨rfl, rfl⟩
  clear HG hbel
  generalize (w.alloc _).alloc _ = W at *
  go_wp2_with fail
  refine (HU.out _ HF.out.below).mono ?_
  rintro e w1 ⟨rfl, hb⟩
  have HF1 := Lib.hid (HF.out.keep hb)
  clear hb HU HF
  have hfi := HC.out _ HF1.out.below
  clear HC
  go_wp2_with fail
  refine (HU2.out _ HF1.out.below).mono ?_
  rintro e w3 ⟨rfl, hb⟩
  clear hfi
  have HF3 := Lib.hid (HF1.out.keep hb)
  clear hb HU2 HF1
  obtain ⟨_, _, r0, r1, r2, z0, z1, z2⟩ := HF3.out
  go_wp2
  refine bodyPost_ret (v := .tuple #[limV (u : Int) true (u2 : Int), .int .i64 (q3 : Int), .int .i64 0]) (by simp [results, Try.results11, go_sem, limV, r0, r1, r2]) rfl ?_
  exact ⟨rfl, ((HF3.out.below.setCell (Nat.le_refl _) _).setCell (Nat.le_refl _) _).setCell (Nat.le_refl _) _⟩
end
theorem olim_any (A : Option Addr) (l : List Nat) (c : Nat) (w : World) (hb : Bytes w w.heap.size A l) (hlc : l.length ≤ c) (hl : l.length ≤ 1000) :
    Calls Try.prog 11 #[.slice A l.length c] w (Lim3 w (limRes l).1 (limRes l).2.1 (limRes l).2.2.1 (limRes l).2.2.2.1 (limRes l).2.2.2.2) := by
  have HG := Lib.hid (fun W g hW hg => bg_lit A l [0, 1] c 2 w 5 #[.int .u8 0, .int .u8 1] hb (by simp) rfl rfl (by omega) W g hW hg)
  have HO : Hid (∀ W A c', Calls Try.prog 32 #[.slice A 0 c', .int .i64 32] W (TellsU W (0, 0, 1))) := Lib.hid fun W A c' => U_below A [] c' W.heap.size 32 W ⟨by simp, by simp⟩ (by omega) (by omega)
  unfold bgRes at HG
  by_cases h0 : l.length < 1
  · rw [if_pos h0] at HG
    have hR : limRes l = (0, false, 0, 0, 1) := by unfold limRes; rw [if_pos h0]
    rw [hR]
    exact olim_bad A l.length c w 1 (by decide) HG
  rw [if_neg h0] at HG
  by_cases hx : l.getD 0 0 = 0 ∨ l.getD 0 0 = 1
  · rw [if_pos (by simpa using hx)] at HG
    obtain ⟨b, off, rfl, hbl, hcs⟩ := hb.2 (by omega)
    have hcell := hcs 0 (by omega)
    have hd : l.getD 0 0 = l[0] := by simp [List.getD, List.getElem?_eq_getElem (show 0 < l.length by omega)]
    rw [Nat.add_zero, ← hd] at hcell
    have HC : Hid (∀ W, Below w.heap.size w W → W.cell? ⟨b, off, none⟩ = some (.int .u8 ((l.getD 0 0 : Nat) : Int))) := Lib.hid fun W hW => (hW.cell (p := ⟨b, off, none⟩) hbl).trans hcell
    have hnx : ¬ (l.getD 0 0 ≠ 0 ∧ l.getD 0 0 ≠ 1) := by omega
    by_cases hc1 : c = 1
    · have hd1 : l.drop 1 = [] := List.drop_of_length_le (by omega)
      have hR : limRes l = (0, false, 0, 0, 1) := by unfold limRes lim1; rw [if_neg h0, if_neg hnx, hd1]; rfl
      rw [hR]
      exact olim_over1 b off l.length c w HG (by omega) hc1 (by omega) HO
    · have hdl : (l.drop 1).length = l.length - 1 := by simp
      have HU : Hid (∀ W, Below w.heap.size w W → Calls Try.prog 32 #[.slice (some ⟨b, off + 1, none⟩) (l.length - 1) (c - 1), .int .i64 32] W (TellsU W (lim1 l))) := Lib.hid fun W hW => by
        have := U_below (some ⟨b, off + 1, none⟩) (l.drop 1) (c - 1) W.heap.size 32 W (((bytes_drop hb 1).below hW).more hW.size) (by omega) (by omega)
        rw [hdl] at this; exact this
      have h32 : (lim1 l).2.2 = 0 → (lim1 l).1 < 4294967296 ∧ 1 ≤ (lim1 l).2.1 ∧ (lim1 l).2.1 ≤ l.length - 1 := by have := uRes_32 (l.drop 1); rw [hdl] at this; exact this
      unfold limRes lim2
      rw [if_neg h0, if_neg hnx]
      generalize lim1 l = g at *
      obtain ⟨u, s, e⟩ := g
      simp only at h32 ⊢
      by_cases he : e = 0
      · subst he
        obtain ⟨h1, h2, h3⟩ := h32 rfl
        simp only [ne_eq, not_true_eq_false, if_false]
        by_cases hx0 : l.getD 0 0 = 0
        · rw [if_pos hx0]
          exact olim_un b off l.length c _ u s w HG (by omega) HC (by omega) HU (1 + s) rfl (by omega) (by omega) (by omega) hx0
        · rw [if_neg hx0]
          have hx1 : l.getD 0 0 = 1 := by omega
          by_cases hpc : 1 + s = c
          · have hd2 : l.drop (1 + s) = [] := List.drop_of_length_le (by omega)
            have hr : uRes ([] : List Nat) 32 = (0, 0, 1) := by decide
            rw [hd2, hr]
            exact olim_over2 b off l.length c _ u s w HG (by omega) HC (by omega) HU (1 + s) rfl (by omega) (by omega) (by omega) hx1 hpc (by omega) HO
          · have hdl2 : (l.drop (1 + s)).length = l.length - (1 + s) := by simp
            have HU2 : Hid (∀ W, Below w.heap.size w W → Calls Try.prog 32 #[.slice (some ⟨b, off + (1 + s), none⟩) (l.length - (1 + s)) (c - (1 + s)), .int .i64 32] W (TellsU W (uRes (l.drop (1 + s)) 32))) := Lib.hid fun W hW => by
              have := U_below (some ⟨b, off + (1 + s), none⟩) (l.drop (1 + s)) (c - (1 + s)) W.heap.size 32 W (((bytes_drop hb (1 + s)).below hW).more hW.size) (by omega) (by omega)
              rw [hdl2] at this; exact this
            have h322 := uRes_32 (l.drop (1 + s))
            rw [hdl2] at h322
            generalize uRes (l.drop (1 + s)) 32 = g2 at *
            obtain ⟨u2, s2, e2⟩ := g2
            simp only at h322 ⊢
            by_cases he2 : e2 = 0
            · subst he2
              obtain ⟨h21, h22, h23⟩ := h322 rfl
              simp only [not_true_eq_false, if_false]
              exact olim_ok b off l.length c _ u s w HG (by omega) HC (by omega) HU (1 + s) rfl (by omega) (by omega) (by omega) hx1 (by omega) u2 s2 (1 + s + s2) rfl (by omega) (by omega) HU2
            · rw [if_pos he2]
              exact olim_err2 b off l.length c _ u s w HG (by omega) HC (by omega) HU (1 + s) rfl (by omega) (by omega) (by omega) hx1 (by omega) u2 s2 e2 (by simp; omega) HU2
      · rw [if_pos he]
        exact olim_err1 b off l.length c u s w HG (by omega) (by omega) e (by simp; omega) HU
  · rw [if_neg (by simpa using hx)] at HG
    have hR : limRes l = (0, false, 0, 0, 2) := by unfold limRes; rw [if_neg h0, if_pos (by omega)]
    rw [hR]
    exact olim_bad A l.length c w 2 (by decide) HG
end Go.Proofs.Ythhdbjpimjkekaa.Typ
