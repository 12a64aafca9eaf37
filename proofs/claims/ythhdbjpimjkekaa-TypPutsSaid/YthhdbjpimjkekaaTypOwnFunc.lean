/-
  typ.Func: a function's type. Condition: the slice leads to bytes, at most 1000.
-/
import Derived.Test.YthhdbjpimjkekaaTypOwnVals
namespace Go.Proofs.Ythhdbjpimjkekaa.Typ
open Go.RowKit Leb

theorem valsRes_drop (l : List Nat) (p : Nat) : valsRes l p = if (valsRes (l.drop p) 0).2.2 = 0 then ((valsRes (l.drop p) 0).1, p + (valsRes (l.drop p) 0).2.1, 0) else ([], 0, (valsRes (l.drop p) 0).2.2) := by
  unfold valsRes
  simp only [Nat.zero_add, List.drop_drop]
  generalize uRes (l.drop p) 32 = g
  obtain ⟨u, s, e⟩ := g
  simp only
  by_cases he : e = 0
  · subst he
    by_cases hu : 8 < u
    · simp [hu]
    · simp only [hu, ne_eq, not_true_eq_false, if_false]
      by_cases ht : (takeVals u (l.drop (p + s))).2 = 0
      · simp [ht]; omega
      · simp [ht]
  · simp [he]
/-- What Func has laid when it reads: the result, untouched; all that was there. -/
structure FAt (w W : World) : Prop where
  below : Below w.heap.size w W
  size : w.heap.size < W.heap.size
  res : ResAt W w.heap.size
theorem FAt.keep {w W W' : World} (h : FAt w W) (h' : Below W.heap.size W W') : FAt w W' :=
  ⟨h.below.trans (h'.mono h.below.size), Nat.lt_of_lt_of_le h.size h'.size, h.res.below h.size h'⟩
theorem fat_of (w : World) (t : TypeId) (o : Obj) : FAt w ((w.alloc (.cells #[.slice none 0 0, .slice none 0 0] t)).alloc o) := by
  have h1 : FAt w (w.alloc (.cells #[.slice none 0 0, .slice none 0 0] t)) := ⟨(Below.refl _ _).alloc (Nat.le_refl _) _, by simp, res_at w t⟩
  exact h1.keep ((Below.refl _ _).alloc (Nat.le_refl _) _)
section
variable (A : Option Addr) (len c : Nat) (w : World)
set_option maxHeartbeats 1000000 in
set_option maxRecDepth 100000 in
theorem ofunc_bad (er : Nat) (he : ((er : Int) != 0) = true) (HG : Hid (∀ W g, Below w.heap.size w W → W.heap.size = g → Calls Try.prog 28 #[.slice A len c, .slice (some ⟨g, 0, none⟩) 1 1] (W.alloc (.cells #[.int .u8 96] 5)) (Same1 (W.alloc (.cells #[.int .u8 96] 5)) (.int .i64 (er : Int))))) :
    Calls Try.prog 8 #[.slice A len c] w (Func3 w ([], [], 0, er)) := by
  have HF := Lib.hid (fat_of w 26 (.cells #[.int .u8 96] 5))
  have hbel : Below w.heap.size w (w.alloc (.cells #[.slice none 0 0, .slice none 0 0] 26)) := (Below.refl _ _).alloc (Nat.le_refl _) _
  go_enter Try.func8, Try.ntmps8
  go_wp2_with fail
  refine (HG.out _ _ hbel (by simp)).mono ?_
  rintro e w1 ⟨rfl, rfl⟩
  clear HG hbel
  generalize (w.alloc _).alloc _ = W at *
  obtain ⟨r0, r1, z0, z1⟩ := HF.out.res
  go_wp2
  refine bodyPost_ret (v := .tuple #[.agg #[.slice none 0 0, .slice none 0 0], .int .i64 0, .int .i64 (er : Int)]) (by simp [results, Try.results8, go_sem, r0, r1]) rfl ?_
  exact ⟨_, rfl, ftype_nil _, (HF.out.below.setCell (Nat.le_refl _) _).setCell (Nat.le_refl _) _⟩
end
section
variable (b off len c : Nat) (w : World) (HG : Hid (∀ W g, Below w.heap.size w W → W.heap.size = g → Calls Try.prog 28 #[.slice (some ⟨b, off, none⟩) len c, .slice (some ⟨g, 0, none⟩) 1 1] (W.alloc (.cells #[.int .u8 96] 5)) (Same1 (W.alloc (.cells #[.int .u8 96] 5)) (.int .i64 0)))) (hl : 1 ≤ len) (xs : List Int) (q : Nat)
include HG hl
set_option maxHeartbeats 1000000 in
set_option maxRecDepth 100000 in
theorem ofunc_over1 (hc : c = 1) (hlen : len = 1) (HV : Hid (∀ W A c', Calls Try.prog 29 #[.slice A 0 c'] W (Vals3 W ([], 0, 1)))) :
    Calls Try.prog 8 #[.slice (some ⟨b, off, none⟩) len c] w (Func3 w ([], [], 0, 1)) := by
  subst hc hlen
  have HF := Lib.hid (fat_of w 26 (.cells #[.int .u8 96] 5))
  have hbel : Below w.heap.size w (w.alloc (.cells #[.slice none 0 0, .slice none 0 0] 26)) := (Below.refl _ _).alloc (Nat.le_refl _) _
  go_enter Try.func8, Try.ntmps8
  go_wp2_with fail
  refine (HG.out _ _ hbel (by simp)).mono ?_
  rintro e w1 ⟨rfl, rfl⟩
  clear HG hbel
  generalize (w.alloc _).alloc _ = W at *
  go_wp2_with fail
  refine (HV.out _ _ _).mono ?_
  rintro e w1 ⟨v1, rfl, hown1, hb1⟩
  have HF1 := Lib.hid (HF.out.keep hb1)
  obtain ⟨r0, r1, z0, z1⟩ := HF1.out.res
  clear HF hb1 hown1 HV
  go_wp2
  refine bodyPost_ret (v := .tuple #[.agg #[.slice none 0 0, .slice none 0 0], .int .i64 0, .int .i64 1]) (by simp [results, Try.results8, go_sem, r0, r1]) rfl ?_
  exact ⟨_, rfl, ftype_nil _, (HF1.out.below.setCell (Nat.le_refl _) _).setCell (Nat.le_refl _) _⟩
variable (h1c : 1 < c)
include h1c
set_option maxHeartbeats 1000000 in
set_option maxRecDepth 100000 in
theorem ofunc_err1 (er : Nat) (he : ((er : Int) != 0) = true) (HV : Hid (∀ W, Below w.heap.size w W → Calls Try.prog 29 #[.slice (some ⟨b, off + 1, none⟩) (len - 1) (c - 1)] W (Vals3 W (xs, q, er)))) :
    Calls Try.prog 8 #[.slice (some ⟨b, off, none⟩) len c] w (Func3 w ([], [], 0, er)) := by
  have hli : (1 : Int) ≤ (len : Int) := by omega
  have HF := Lib.hid (fat_of w 26 (.cells #[.int .u8 96] 5))
  have hbel : Below w.heap.size w (w.alloc (.cells #[.slice none 0 0, .slice none 0 0] 26)) := (Below.refl _ _).alloc (Nat.le_refl _) _
  go_enter Try.func8, Try.ntmps8
  go_wp2_with fail
  refine (HG.out _ _ hbel (by simp)).mono ?_
  rintro e w1 ⟨rfl, rfl⟩
  clear HG hbel
  generalize (w.alloc _).alloc _ = W at *
  go_wp2_with fail
  refine (HV.out _ HF.out.below).mono ?_
  rintro e w1 ⟨v1, rfl, hown1, hb1⟩
  have HF1 := Lib.hid (HF.out.keep hb1)
  obtain ⟨r0, r1, z0, z1⟩ := HF1.out.res
  clear HF hb1 hown1 HV
  go_wp2
  refine bodyPost_ret (v := .tuple #[.agg #[.slice none 0 0, .slice none 0 0], .int .i64 0, .int .i64 (er : Int)]) (by simp [results, Try.results8, go_sem, r0, r1]) rfl ?_
  exact ⟨_, rfl, ftype_nil _, (HF1.out.below.setCell (Nat.le_refl _) _).setCell (Nat.le_refl _) _⟩
variable (HV : Hid (∀ W, Below w.heap.size w W → Calls Try.prog 29 #[.slice (some ⟨b, off + 1, none⟩) (len - 1) (c - 1)] W (Vals3 W (xs, q, 0)))) (p : Nat) (hp : 1 + q = p) (hpl : p ≤ len) (hp0 : p ≤ 100000)
include HV hp hpl hp0
set_option maxHeartbeats 1000000 in
set_option maxRecDepth 100000 in
theorem ofunc_over2 (hpc : p = c) (hpl2 : p = len) (HV2 : Hid (∀ W A c', Calls Try.prog 29 #[.slice A 0 c'] W (Vals3 W ([], 0, 1)))) :
    Calls Try.prog 8 #[.slice (some ⟨b, off, none⟩) len c] w (Func3 w ([], [], 0, 1)) := by
  subst hpc hpl2
  have hli : (1 : Int) ≤ (p : Int) := by omega
  have HF := Lib.hid (fat_of w 26 (.cells #[.int .u8 96] 5))
  have hbel : Below w.heap.size w (w.alloc (.cells #[.slice none 0 0, .slice none 0 0] 26)) := (Below.refl _ _).alloc (Nat.le_refl _) _
  have hsum : (1 : Int) + (q : Int) = (p : Int) := by omega
  go_enter Try.func8, Try.ntmps8
  go_wp2_with fail
  refine (HG.out _ _ hbel (by simp)).mono ?_
  rintro e w1 ⟨rfl, rfl⟩
  clear HG hbel
  generalize (w.alloc _).alloc _ = W at *
  go_wp2_with fail
  refine (HV.out _ HF.out.below).mono ?_
  rintro e w1 ⟨v1, rfl, hown1, hb1⟩
  have HF1 := Lib.hid (HF.out.keep hb1)
  clear HF hb1 hown1 HV
  go_wp2_with fail
  refine (HV2.out _ _ _).mono ?_
  rintro e w3 ⟨v3, rfl, hown3, hb3⟩
  have HF3 := Lib.hid (HF1.out.keep hb3)
  obtain ⟨r0, r1, z0, z1⟩ := HF3.out.res
  clear HF1 hb3 hown3 HV2
  go_wp2
  refine bodyPost_ret (v := .tuple #[.agg #[.slice none 0 0, .slice none 0 0], .int .i64 0, .int .i64 1]) (by simp [results, Try.results8, go_sem, r0, r1]) rfl ?_
  exact ⟨_, rfl, ftype_nil _, (HF3.out.below.setCell (Nat.le_refl _) _).setCell (Nat.le_refl _) _⟩
variable (hpc : p < c) (ys : List Int) (q2 : Nat)
include hpc
set_option maxHeartbeats 1000000 in
set_option maxRecDepth 100000 in
theorem ofunc_err2 (er : Nat) (he : ((er : Int) != 0) = true) (HV2 : Hid (∀ W, Below w.heap.size w W → Calls Try.prog 29 #[.slice (some ⟨b, off + p, none⟩) (len - p) (c - p)] W (Vals3 W (ys, q2, er)))) :
    Calls Try.prog 8 #[.slice (some ⟨b, off, none⟩) len c] w (Func3 w ([], [], 0, er)) := by
  have hli : (1 : Int) ≤ (len : Int) := by omega
  have hlp : (p : Int) ≤ (len : Int) := by omega
  have HF := Lib.hid (fat_of w 26 (.cells #[.int .u8 96] 5))
  have hbel : Below w.heap.size w (w.alloc (.cells #[.slice none 0 0, .slice none 0 0] 26)) := (Below.refl _ _).alloc (Nat.le_refl _) _
  have hsum : (1 : Int) + (q : Int) = (p : Int) := by omega
  go_enter Try.func8, Try.ntmps8
  go_wp2_with fail
  refine (HG.out _ _ hbel (by simp)).mono ?_
  rintro e w1 ⟨rfl, rfl⟩
  clear HG hbel
  generalize (w.alloc _).alloc _ = W at *
  go_wp2_with fail
  refine (HV.out _ HF.out.below).mono ?_
  rintro e w1 ⟨v1, rfl, hown1, hb1⟩
  have HF1 := Lib.hid (HF.out.keep hb1)
  clear HF hb1 hown1 HV
  go_wp2_with fail
  refine (HV2.out _ HF1.out.below).mono ?_
  rintro e w3 ⟨v3, rfl, hown3, hb3⟩
  have HF3 := Lib.hid (HF1.out.keep hb3)
  obtain ⟨r0, r1, z0, z1⟩ := HF3.out.res
  clear HF1 hb3 hown3 HV2
  go_wp2
  refine bodyPost_ret (v := .tuple #[.agg #[.slice none 0 0, .slice none 0 0], .int .i64 0, .int .i64 (er : Int)]) (by simp [results, Try.results8, go_sem, r0, r1]) rfl ?_
  exact ⟨_, rfl, ftype_nil _, (HF3.out.below.setCell (Nat.le_refl _) _).setCell (Nat.le_refl _) _⟩
set_option maxHeartbeats 1000000 in
set_option maxRecDepth 100000 in
theorem ofunc_ok (q3 : Nat) (hq3 : p + q2 = q3) (hq30 : q3 ≤ 100000) (HV2 : Hid (∀ W, Below w.heap.size w W → Calls Try.prog 29 #[.slice (some ⟨b, off + p, none⟩) (len - p) (c - p)] W (Vals3 W (ys, q2, 0)))) :
    Calls Try.prog 8 #[.slice (some ⟨b, off, none⟩) len c] w (Func3 w (xs, ys, q3, 0)) := by
  have hli : (1 : Int) ≤ (len : Int) := by omega
  have hlp : (p : Int) ≤ (len : Int) := by omega
  have HF := Lib.hid (fat_of w 26 (.cells #[.int .u8 96] 5))
  have hbel : Below w.heap.size w (w.alloc (.cells #[.slice none 0 0, .slice none 0 0] 26)) := (Below.refl _ _).alloc (Nat.le_refl _) _
  have hsum : (1 : Int) + (q : Int) = (p : Int) := by omega
  have hsum2 : (p : Int) + (q2 : Int) = (q3 : Int) := by omega
  go_enter Try.func8, Try.ntmps8
  go_wp2_with fail
  refine (HG.out _ _ hbel (by simp)).mono ?_
  rintro e w1 ⟨rfl, rfl⟩
  clear HG hbel
  generalize (w.alloc _).alloc _ = W at *
  go_wp2_with fail
  refine (HV.out _ HF.out.below).mono ?_
  rintro e w1 ⟨v1, rfl, hown1, hb1⟩
  have HF1 := Lib.hid (HF.out.keep hb1)
  have HSZ := Lib.hid HF.out.size
  clear HF hb1 HV
  go_wp2_with fail
  refine (HV2.out _ HF1.out.below).mono ?_
  rintro e w3 ⟨v3, rfl, hown3, hb3⟩
  have HF3 := Lib.hid (HF1.out.keep hb3)
  have HSZ1 := Lib.hid HF1.out.size
  obtain ⟨r0, r1, z0, z1⟩ := HF3.out.res
  have HO1 := Lib.hid (hown1.keep hb3 hown1.lt)
  have HO3 := Lib.hid hown3
  clear HF1 hb3 hown3 HV2 hown1
  obtain ⟨A1, k1, hv1, _, _, _⟩ := HO1.out.ints
  obtain ⟨A3, k3, hv3, _, _, _⟩ := HO3.out.ints
  subst hv1 hv3
  generalize xs.length = n1 at *
  generalize ys.length = n3 at *
  go_wp2
  refine bodyPost_ret (v := .tuple #[.agg #[.slice A1 n1 k1, .slice A3 n3 k3], .int .i64 (q3 : Int), .int .i64 0]) (by simp [results, Try.results8, go_sem, r0, r1]) rfl ?_
  refine ⟨_, rfl, ftype_of ((HO1.out.setBelow ?_ _).setBelow ?_ _) ((HO3.out.setBelow ?_ _).setBelow ?_ _), (HF3.out.below.setCell (Nat.le_refl _) _).setCell (Nat.le_refl _) _⟩
  · exact HSZ.out
  · exact HSZ.out
  · exact HSZ1.out
  · exact HSZ1.out
end
theorem bg_lit (A : Option Addr) (l fs : List Nat) (c n : Nat) (w : World) (t : TypeId) (vs : Array Value) (hb : Bytes w w.heap.size A l) (hf : ∀ x ∈ fs, x < 256) (hv : vs = (fs.map bv).toArray) (hn : fs.length = n) (h47 : n ≤ 1000) (W : World) (g : Nat) (hW : Below w.heap.size w W) (hg : W.heap.size = g) :
    Calls Try.prog 28 #[.slice A l.length c, .slice (some ⟨g, 0, none⟩) n n] (W.alloc (.cells vs t)) (Same1 (W.alloc (.cells vs t)) (.int .i64 (bgRes l fs : Nat))) := by
  subst hg hn
  exact begins_any A _ l fs c fs.length _ _ _ ((hb.below hW).below (((Below.refl _ _).alloc (Nat.le_refl _) _).mono hW.size)) (bytes_lit W fs hf t vs hv) h47
theorem ofunc_any (A : Option Addr) (l : List Nat) (c : Nat) (w : World) (hb : Bytes w w.heap.size A l) (hlc : l.length ≤ c) (hl : l.length ≤ 1000) :
    Calls Try.prog 8 #[.slice A l.length c] w (Func3 w (funcRes l)) := by
  have HG := Lib.hid (fun W g hW hg => bg_lit A l [96] c 1 w 5 #[.int .u8 96] hb (by simp) rfl rfl (by omega) W g hW hg)
  unfold funcRes
  unfold bgRes at HG
  by_cases h0 : l.length < 1
  · rw [if_pos h0] at HG
    rw [if_pos h0]
    exact ofunc_bad A l.length c w 1 (by decide) HG
  rw [if_neg h0] at HG
  rw [if_neg h0]
  by_cases hx : l.getD 0 0 = 96
  · rw [if_pos (List.mem_singleton.2 hx)] at HG
    rw [if_neg (fun h => h hx)]
    obtain ⟨b, off, rfl, hbl, hcs⟩ := hb.2 (by omega)
    rw [valsRes_drop l 1]
    by_cases hc1 : c = 1
    · have hd : l.drop 1 = [] := List.drop_of_length_le (by omega)
      have hr : valsRes ([] : List Nat) 0 = ([], 0, 1) := by decide
      rw [hd, hr]
      have := ofunc_over1 b off l.length c w HG (by omega) hc1 (by omega) (Lib.hid fun W A c' => by have := ovals_any A [] c' W ⟨by simp, by simp⟩ (by simp) (by simp); rw [hr] at this; exact this)
      simpa using this
    · have hdl : (l.drop 1).length = l.length - 1 := by simp
      have HV : Hid (∀ W, Below w.heap.size w W → Calls Try.prog 29 #[.slice (some ⟨b, off + 1, none⟩) (l.length - 1) (c - 1)] W (Vals3 W (valsRes (l.drop 1) 0))) := Lib.hid fun W hW => by
        have := ovals_any (some ⟨b, off + 1, none⟩) (l.drop 1) (c - 1) W (((bytes_drop hb 1).below hW).more hW.size) (by omega) (by omega)
        rw [hdl] at this; exact this
      have hok := valsRes_ok (l.drop 1) 0 (by omega)
      generalize valsRes (l.drop 1) 0 = g at *
      obtain ⟨xs, q, e⟩ := g
      simp only at hok ⊢
      by_cases he : e = 0
      · subst he
        rw [if_pos rfl]
        simp only [ne_eq, not_true_eq_false, if_false]
        obtain ⟨_, hq, _, _⟩ := hok rfl
        rw [hdl] at hq
        rw [valsRes_drop l (1 + q)]
        by_cases hpc : 1 + q = c
        · have hd : l.drop (1 + q) = [] := List.drop_of_length_le (by omega)
          have hr : valsRes ([] : List Nat) 0 = ([], 0, 1) := by decide
          rw [hd, hr]
          have := ofunc_over2 b off l.length c w HG (by omega) xs q (by omega) HV (1 + q) rfl (by omega) (by omega) hpc (by omega) (Lib.hid fun W A c' => by have := ovals_any A [] c' W ⟨by simp, by simp⟩ (by simp) (by simp); rw [hr] at this; exact this)
          simpa using this
        · have hdl2 : (l.drop (1 + q)).length = l.length - (1 + q) := by simp
          have HV2 : Hid (∀ W, Below w.heap.size w W → Calls Try.prog 29 #[.slice (some ⟨b, off + (1 + q), none⟩) (l.length - (1 + q)) (c - (1 + q))] W (Vals3 W (valsRes (l.drop (1 + q)) 0))) := Lib.hid fun W hW => by
            have := ovals_any (some ⟨b, off + (1 + q), none⟩) (l.drop (1 + q)) (c - (1 + q)) W (((bytes_drop hb (1 + q)).below hW).more hW.size) (by omega) (by omega)
            rw [hdl2] at this; exact this
          have hok2 := valsRes_ok (l.drop (1 + q)) 0 (by omega)
          generalize valsRes (l.drop (1 + q)) 0 = g2 at *
          obtain ⟨ys, q2, e2⟩ := g2
          simp only at hok2 ⊢
          by_cases he2 : e2 = 0
          · subst he2
            rw [if_pos rfl]
            obtain ⟨_, hq2, _, _⟩ := hok2 rfl
            have := ofunc_ok b off l.length c w HG (by omega) xs q (by omega) HV (1 + q) rfl (by omega) (by omega) (by omega) ys q2 (1 + q + q2) rfl (by omega) HV2
            simpa using this
          · rw [if_neg he2]
            have := ofunc_err2 b off l.length c w HG (by omega) xs q (by omega) HV (1 + q) rfl (by omega) (by omega) (by omega) ys q2 e2 (by simp; omega) HV2
            simpa [he2] using this
      · rw [if_neg he]
        have := ofunc_err1 b off l.length c w HG (by omega) xs q (by omega) e (by simp; omega) HV
        simpa [he] using this
  · rw [if_neg (fun h => hx (List.mem_singleton.1 h))] at HG
    rw [if_pos hx]
    exact ofunc_bad A l.length c w 2 (by decide) HG
end Go.Proofs.Ythhdbjpimjkekaa.Typ
