/-
  trammelref05.Func: a function's type. Condition: the bytes lie in memory as a slice's cells, and are fewer than 2^47.
-/
import Derived.Test.YthhdbjpimjkekaaTypVals
import Derived.Handy
namespace Go.Proofs.Ythhdbjpimjkekaa.Typ
open Go.RowKit Leb

theorem takeVals_ok (n : Nat) (l : List Nat) (h : (takeVals n l).2 = 0) : n ≤ l.length ∧ (takeVals n l).1 = (l.take n).map (fun x : Nat => (x : Int)) ∧ ∀ x ∈ l.take n, x = 127 ∨ x = 126 := by
  induction n generalizing l with
  | zero => simp [takeVals]
  | succ n ih =>
    cases l with
    | nil => simp [takeVals] at h
    | cons c l =>
      simp only [takeVals] at h ⊢
      by_cases hv : (valOf c).2 ≠ 0
      · rw [if_pos hv] at h; exact absurd h hv
      · rw [if_neg hv] at h ⊢
        have hc : c = 127 ∨ c = 126 := by
          rcases valOf_cases c with h1 | h1 | h1
          · exact h1.2
          · rw [h1] at hv; simp at hv
          · rw [h1] at hv; simp at hv
        by_cases h2 : (takeVals n l).2 = 0
        · obtain ⟨i1, i2, i3⟩ := ih l h2
          rw [if_pos h2]
          refine ⟨by simp; omega, by simp [i2], ?_⟩
          intro x hx
          simp only [List.take_succ_cons, List.mem_cons] at hx
          rcases hx with rfl | hx
          · exact hc
          · exact i3 x hx
        · rw [if_neg h2] at h; exact absurd h h2
theorem valsRes_ok (l : List Nat) (p : Nat) (hp : p ≤ l.length) (h : (valsRes l p).2.2 = 0) : p ≤ (valsRes l p).2.1 ∧ (valsRes l p).2.1 ≤ l.length ∧ (valsRes l p).1.length ≤ 8 ∧ ∀ x ∈ (valsRes l p).1, x = 127 ∨ x = 126 := by
  unfold valsRes at h ⊢
  have h32 := uRes_32 (l.drop p)
  generalize uRes (l.drop p) 32 = g at *
  obtain ⟨u, s, e⟩ := g
  simp only at h32 h ⊢
  by_cases he : e = 0
  · subst he
    obtain ⟨h1, h2, h3⟩ := h32 rfl
    rw [if_neg (by simp)] at h ⊢
    by_cases hu : 8 < u
    · rw [if_pos hu] at h; simp at h
    · rw [if_neg hu] at h ⊢
      by_cases ht : (takeVals u (l.drop (p + s))).2 = 0
      · obtain ⟨t1, t2, t3⟩ := takeVals_ok _ _ ht
        rw [if_pos ht]
        simp only [List.length_drop] at t1 h3
        refine ⟨by simp only; omega, by simp only; omega, by simp only; rw [t2]; simp; omega, ?_⟩
        intro x hx
        simp only at hx
        rw [t2] at hx
        obtain ⟨y, hy, rfl⟩ := List.mem_map.1 hx
        have := t3 y hy
        omega
      · rw [if_neg ht] at h; exact absurd h ht
  · rw [if_pos he] at h; exact absurd h he
/-- What Func answers: the parameters' types, the results', how many bytes, the error. -/
def funcRes (l : List Nat) : List Int × List Int × Nat × Nat :=
  if l.length < 1 then ([], [], 0, 1)
  else if l.getD 0 0 ≠ 96 then ([], [], 0, 2)
  else if (valsRes l 1).2.2 ≠ 0 then ([], [], 0, (valsRes l 1).2.2)
  else if (valsRes l (valsRes l 1).2.1).2.2 ≠ 0 then ([], [], 0, (valsRes l (valsRes l 1).2.1).2.2)
  else ((valsRes l 1).1, (valsRes l (valsRes l 1).2.1).1, (valsRes l (valsRes l 1).2.1).2.1, 0)
/-- A function's type as a value: its two slices lead to these ints. -/
def FType (w : World) (v : Value) (ps rs : List Int) : Prop :=
  ∃ A c A' c', v = .agg #[.slice A ps.length c, .slice A' rs.length c'] ∧ Ints w w.heap.size A ps ∧ Ints w w.heap.size A' rs ∧ ps.length ≤ c ∧ rs.length ≤ c' ∧ (A = none → c = 0) ∧ (A' = none → c' = 0)
def Func3 (w : World) (r : List Int × List Int × Nat × Nat) (e : Ending) (w' : World) : Prop :=
  ∃ v, e = .returned (.tuple #[v, .int .i64 (r.2.2.1 : Int), .int .i64 (r.2.2.2 : Int)]) ∧ FType w' v r.1 r.2.1 ∧ Below w.heap.size w w'
theorem ftype_nil (w : World) : FType w (.agg #[.slice none 0 0, .slice none 0 0]) [] [] := ⟨none, 0, none, 0, rfl, Ints.nil _ _ _, Ints.nil _ _ _, Nat.le_refl _, Nat.le_refl _, fun _ => rfl, fun _ => rfl⟩
set_option maxHeartbeats 1000000 in
set_option maxRecDepth 100000 in
theorem func_short (A : Option Addr) (c : Nat) (w : World) : Calls Try.prog 9 #[.slice A 0 c] w (Func3 w ([], [], 0, 1)) := by
  go_enter Try.func9, Try.ntmps9
  go_wp2
  refine bodyPost_ret (v := .tuple #[.agg #[.slice none 0 0, .slice none 0 0], .int .i64 0, .int .i64 1]) (by simp [results, Try.results9, go_sem]) rfl ?_
  exact ⟨_, rfl, ftype_nil _, (Below.refl _ _).alloc (Nat.le_refl _) _⟩
set_option maxHeartbeats 1000000 in
set_option maxRecDepth 100000 in
theorem func_first (b off len c : Nat) (x : Nat) (w : World) (hl : 1 ≤ len) (hc : w.cell? ⟨b, off, none⟩ = some (.int .u8 (x : Int))) (hb : b < w.heap.size) (hx : x ≠ 96) : Calls Try.prog 9 #[.slice (some ⟨b, off, none⟩) len c] w (Func3 w ([], [], 0, 2)) := by
  have hbel : Below w.heap.size w (w.alloc (.cells #[.slice none 0 0, .slice none 0 0] 26)) := (Below.refl _ _).alloc (Nat.le_refl _) _
  have hc1 := (hbel.cell (p := ⟨b, off, none⟩) hb).trans hc
  have hx1 : ((x : Int) != 96) = true := by simp; omega
  have hl1 : ¬ (len : Int) < 1 := by omega
  clear hx hc
  go_enter Try.func9, Try.ntmps9
  go_wp2
  refine bodyPost_ret (v := .tuple #[.agg #[.slice none 0 0, .slice none 0 0], .int .i64 0, .int .i64 2]) (by simp [results, Try.results9, go_sem]) rfl ?_
  exact ⟨_, rfl, ftype_nil _, hbel⟩
theorem OwnI.setBelow {w : World} {base : Nat} {v : Value} {l : List Int} (h : OwnI w base v l) {a : Addr} (ha : a.block < base) (u : Value) : OwnI (w.setCell a u) base v l := ownsRow_setCell_below h ha u
theorem ftype_of {w : World} {b1 b3 : Nat} {v1 v3 : Value} {xs ys : List Int} (h1 : OwnI w b1 v1 xs) (h3 : OwnI w b3 v3 ys) : FType w (.agg #[v1, v3]) xs ys := by
  obtain ⟨A1, k1, rfl, i1, j1, n1⟩ := h1.ints
  obtain ⟨A3, k3, rfl, i3, j3, n3⟩ := h3.ints
  exact ⟨A1, k1, A3, k3, rfl, i1, i3, j1, j3, n1, n3⟩
/-- A result's cell that was laid and not written since. -/
structure ResAt (w : World) (r : Nat) : Prop where
  c0 : w.cell? ⟨r, 0, none⟩ = some (.slice none 0 0)
  c1 : w.cell? ⟨r, 1, none⟩ = some (.slice none 0 0)
  z0 : w.frozen? ⟨r, 0, none⟩ = false
  z1 : w.frozen? ⟨r, 1, none⟩ = false
theorem ResAt.below {w w' : World} {r : Nat} (h : ResAt w r) (hr : r < w.heap.size) (hb : Below w.heap.size w w') : ResAt w' r :=
  ⟨(hb.cell (p := ⟨r, 0, none⟩) hr).trans h.c0, (hb.cell (p := ⟨r, 1, none⟩) hr).trans h.c1, (hb.frozen (p := ⟨r, 0, none⟩) hr).trans h.z0, (hb.frozen (p := ⟨r, 1, none⟩) hr).trans h.z1⟩
theorem res_at (w : World) (t : TypeId) : ResAt (w.alloc (.cells #[.slice none 0 0, .slice none 0 0] t)) w.heap.size :=
  ⟨by simp, by simp, by simp only [World.frozen?, (MapKept.heap_alloc w _).1]; rfl, by simp only [World.frozen?, (MapKept.heap_alloc w _).1]; rfl⟩
section
variable (b off len c : Nat) (w : World) (hl : 1 ≤ len) (hc : w.cell? ⟨b, off, none⟩ = some (.int .u8 96)) (hb : b < w.heap.size) (xs : List Int) (q : Nat)
include hl hc hb
set_option maxHeartbeats 1000000 in
set_option maxRecDepth 100000 in
theorem func_err1 (er : Nat) (he : ((er : Int) != 0) = true) (HV : Hid (∀ W, Below w.heap.size w W → Calls Try.prog 30 #[.slice (some ⟨b, off, none⟩) len c, .int .i64 1] W (Vals3 W (xs, q, er)))) :
    Calls Try.prog 9 #[.slice (some ⟨b, off, none⟩) len c] w (Func3 w ([], [], 0, er)) := by
  have hbel : Below w.heap.size w (w.alloc (.cells #[.slice none 0 0, .slice none 0 0] 26)) := (Below.refl _ _).alloc (Nat.le_refl _) _
  have hc1 := (hbel.cell (p := ⟨b, off, none⟩) hb).trans hc
  have hl1 : ¬ (len : Int) < 1 := by omega
  have HR := Lib.hid (res_at w 26)
  have hsz : w.heap.size < (w.alloc (.cells #[.slice none 0 0, .slice none 0 0] 26)).heap.size := by simp
  have HSZ := Lib.hid hsz
  clear hc hsz
  go_enter Try.func9, Try.ntmps9
  go_wp2_with fail
  refine (HV.out _ hbel).mono ?_
  rintro e w1 ⟨v1, rfl, hown1, hb1⟩
  obtain ⟨r0, r1, z0, z1⟩ := HR.out.below HSZ.out hb1
  have hb2 := hbel.trans (hb1.mono hbel.size)
  clear hbel hb1 hc1
  go_wp2
  refine bodyPost_ret (v := .tuple #[.agg #[.slice none 0 0, .slice none 0 0], .int .i64 0, .int .i64 (er : Int)]) (by simp [results, Try.results9, go_sem, r0, r1]) rfl ?_
  exact ⟨_, rfl, ftype_nil _, (hb2.setCell (Nat.le_refl _) _).setCell (Nat.le_refl _) _⟩
set_option maxHeartbeats 1000000 in
set_option maxRecDepth 100000 in
theorem func_err2 (q2 er : Nat) (ys : List Int) (he : ((er : Int) != 0) = true) (HV : Hid (∀ W, Below w.heap.size w W → Calls Try.prog 30 #[.slice (some ⟨b, off, none⟩) len c, .int .i64 1] W (Vals3 W (xs, q, 0))))
    (HV2 : Hid (∀ W, Below w.heap.size w W → Calls Try.prog 30 #[.slice (some ⟨b, off, none⟩) len c, .int .i64 (q : Int)] W (Vals3 W (ys, q2, er)))) :
    Calls Try.prog 9 #[.slice (some ⟨b, off, none⟩) len c] w (Func3 w ([], [], 0, er)) := by
  have hbel : Below w.heap.size w (w.alloc (.cells #[.slice none 0 0, .slice none 0 0] 26)) := (Below.refl _ _).alloc (Nat.le_refl _) _
  have hc1 := (hbel.cell (p := ⟨b, off, none⟩) hb).trans hc
  have hl1 : ¬ (len : Int) < 1 := by omega
  have HR := Lib.hid (res_at w 26)
  have hsz : w.heap.size < (w.alloc (.cells #[.slice none 0 0, .slice none 0 0] 26)).heap.size := by simp
  have HSZ := Lib.hid hsz
  clear hc hsz
  go_enter Try.func9, Try.ntmps9
  go_wp2_with fail
  refine (HV.out _ hbel).mono ?_
  rintro e w1 ⟨v1, rfl, hown1, hb1⟩
  have HR1 := Lib.hid (HR.out.below HSZ.out hb1)
  have hb2 := hbel.trans (hb1.mono hbel.size)
  have HSZ1 := Lib.hid (Nat.lt_of_lt_of_le HSZ.out hb1.size)
  clear hc1 HV HR
  go_wp2_with fail
  refine (HV2.out _ hb2).mono ?_
  rintro e w3 ⟨v3, rfl, hown3, hb3⟩
  obtain ⟨r0, r1, z0, z1⟩ := HR1.out.below HSZ1.out hb3
  have hb4 := hb2.trans (hb3.mono hb2.size)
  clear hbel hb1 hb2 hb3 HV2 HR1 hown1 hown3
  go_wp2
  refine bodyPost_ret (v := .tuple #[.agg #[.slice none 0 0, .slice none 0 0], .int .i64 0, .int .i64 (er : Int)]) (by simp [results, Try.results9, go_sem, r0, r1]) rfl ?_
  exact ⟨_, rfl, ftype_nil _, (hb4.setCell (Nat.le_refl _) _).setCell (Nat.le_refl _) _⟩
set_option maxHeartbeats 1000000 in
set_option maxRecDepth 100000 in
theorem func_ok (q2 : Nat) (ys : List Int) (HV : Hid (∀ W, Below w.heap.size w W → Calls Try.prog 30 #[.slice (some ⟨b, off, none⟩) len c, .int .i64 1] W (Vals3 W (xs, q, 0))))
    (HV2 : Hid (∀ W, Below w.heap.size w W → Calls Try.prog 30 #[.slice (some ⟨b, off, none⟩) len c, .int .i64 (q : Int)] W (Vals3 W (ys, q2, 0)))) :
    Calls Try.prog 9 #[.slice (some ⟨b, off, none⟩) len c] w (Func3 w (xs, ys, q2, 0)) := by
  have hbel : Below w.heap.size w (w.alloc (.cells #[.slice none 0 0, .slice none 0 0] 26)) := (Below.refl _ _).alloc (Nat.le_refl _) _
  have hc1 := (hbel.cell (p := ⟨b, off, none⟩) hb).trans hc
  have hl1 : ¬ (len : Int) < 1 := by omega
  have HR := Lib.hid (res_at w 26)
  have hsz : w.heap.size < (w.alloc (.cells #[.slice none 0 0, .slice none 0 0] 26)).heap.size := by simp
  have HSZ := Lib.hid hsz
  clear hc hsz
  go_enter Try.func9, Try.ntmps9
  go_wp2_with fail
  refine (HV.out _ hbel).mono ?_
  rintro e w1 ⟨v1, rfl, hown1, hb1⟩
  have HR1 := Lib.hid (HR.out.below HSZ.out hb1)
  have hb2 := hbel.trans (hb1.mono hbel.size)
  have HSZ1 := Lib.hid (Nat.lt_of_lt_of_le HSZ.out hb1.size)
  clear hc1 HV HR
  go_wp2_with fail
  refine (HV2.out _ hb2).mono ?_
  rintro e w3 ⟨v3, rfl, hown3, hb3⟩
  obtain ⟨r0, r1, z0, z1⟩ := HR1.out.below HSZ1.out hb3
  have hb4 := hb2.trans (hb3.mono hb2.size)
  have hown1' := hown1.keep hb3 hown1.lt
  have HO1 := Lib.hid hown1'
  have HO3 := Lib.hid hown3
  clear hbel hb1 hb2 hb3 HV2 HR1 hown1 hown3 hown1'
  obtain ⟨A1, k1, hv1, _, _, _⟩ := HO1.out.ints
  obtain ⟨A3, k3, hv3, _, _, _⟩ := HO3.out.ints
  subst hv1 hv3
  generalize xs.length = n1 at *
  generalize ys.length = n3 at *
  go_wp2
  refine bodyPost_ret (v := .tuple #[.agg #[.slice A1 n1 k1, .slice A3 n3 k3], .int .i64 (q2 : Int), .int .i64 0]) (by simp [results, Try.results9, go_sem, r0, r1]) rfl ?_
  refine ⟨_, rfl, ftype_of ((HO1.out.setBelow ?_ _).setBelow ?_ _) ((HO3.out.setBelow ?_ _).setBelow ?_ _), (hb4.setCell (Nat.le_refl _) _).setCell (Nat.le_refl _) _⟩
  · exact HSZ.out
  · exact HSZ.out
  · exact HSZ1.out
  · exact HSZ1.out
end
theorem rfunc_any (A : Option Addr) (l : List Nat) (c : Nat) (w : World) (hb : Bytes w w.heap.size A l) (hlc : l.length ≤ c) (hl47 : l.length ≤ 140737488355328) :
    Calls Try.prog 9 #[.slice A l.length c] w (Func3 w (funcRes l)) := by
  unfold funcRes
  by_cases h0 : l.length < 1
  · have hl : l.length = 0 := by omega
    rw [if_pos h0, hl]
    exact func_short A c w
  rw [if_neg h0]
  obtain ⟨b, off, rfl, hbl, hcs⟩ := hb.2 (by omega)
  have hc := hcs 0 (by omega)
  have hd : l.getD 0 0 = l[0] := by simp [List.getD, List.getElem?_eq_getElem (show 0 < l.length by omega)]
  rw [hd]
  rw [Nat.add_zero] at hc
  by_cases hx : l[0] = 96
  · rw [if_neg (by simp [hx])]
    rw [hx] at hc
    have HV : Hid (∀ W, Below w.heap.size w W → Calls Try.prog 30 #[.slice (some ⟨b, off, none⟩) l.length c, .int .i64 1] W (Vals3 W (valsRes l 1))) := Lib.hid fun W hW => vals_any b off 1 c l W (by omega) hlc hl47 ((hb.below hW).more hW.size)
    have hok := valsRes_ok l 1 (by omega)
    have HV2 : (valsRes l 1).2.1 ≤ l.length → Hid (∀ W, Below w.heap.size w W → Calls Try.prog 30 #[.slice (some ⟨b, off, none⟩) l.length c, .int .i64 ((valsRes l 1).2.1 : Int)] W (Vals3 W (valsRes l (valsRes l 1).2.1))) := fun h => Lib.hid fun W hW => vals_any b off _ c l W h hlc hl47 ((hb.below hW).more hW.size)
    generalize valsRes l 1 = g at *
    obtain ⟨xs, q, e⟩ := g
    simp only at hok HV2 ⊢
    by_cases he : e = 0
    · subst he
      rw [if_neg (by simp)]
      obtain ⟨_, hq, _, _⟩ := hok rfl
      have HV2' := HV2 hq
      generalize valsRes l q = g2 at *
      obtain ⟨ys, q2, e2⟩ := g2
      simp only
      by_cases he2 : e2 = 0
      · subst he2
        rw [if_neg (by simp)]
        exact func_ok b off l.length c w (by omega) hc hbl xs q q2 ys HV HV2'
      · rw [if_pos he2]
        exact func_err2 b off l.length c w (by omega) hc hbl xs q q2 e2 ys (by simp; omega) HV HV2'
    · rw [if_pos he]
      exact func_err1 b off l.length c w (by omega) hc hbl xs q e (by simp; omega) HV
  · rw [if_pos hx]
    exact func_first b off l.length c l[0] w (by omega) hc hbl hx
end Go.Proofs.Ythhdbjpimjkekaa.Typ
