/-
  trammelref05.vals: types, and the place behind them. Conditions: the bytes lie in memory as a slice's cells; the place is not beyond them.
-/
import Derived.Test.YthhdbjpimjkekaaTypVal
import Derived.Test.YthhdbjpimjkekaaTypInts
import Derived.Test.YthhdbjpimjkekaaLebRefU
namespace Go.Proofs.Ythhdbjpimjkekaa.Typ
open Go.RowKit Leb

/-- So many types of the bytes' beginning, or the first error. -/
def takeVals : Nat → List Nat → List Int × Nat
  | 0, _ => ([], 0)
  | _ + 1, [] => ([], 1)
  | n + 1, c :: l => if (valOf c).2 ≠ 0 then ([], (valOf c).2) else if (takeVals n l).2 = 0 then ((c : Int) :: (takeVals n l).1, 0) else ([], (takeVals n l).2)
/-- What was read and what is still read, together. -/
def joined (xs : List Int) (r : List Int × Nat) : List Int × Nat := if r.2 = 0 then (xs ++ r.1, 0) else ([], r.2)
/-- What vals answers: the types, the place behind them, the error. -/
def valsRes (l : List Nat) (p : Nat) : List Int × Nat × Nat :=
  if (uRes (l.drop p) 32).2.2 ≠ 0 then ([], 0, (uRes (l.drop p) 32).2.2)
  else if 8 < (uRes (l.drop p) 32).1 then ([], 0, 4)
  else if (takeVals (uRes (l.drop p) 32).1 (l.drop (p + (uRes (l.drop p) 32).2.1))).2 = 0 then ((takeVals (uRes (l.drop p) 32).1 (l.drop (p + (uRes (l.drop p) 32).2.1))).1, p + (uRes (l.drop p) 32).2.1 + (uRes (l.drop p) 32).1, 0)
  else ([], 0, (takeVals (uRes (l.drop p) 32).1 (l.drop (p + (uRes (l.drop p) 32).2.1))).2)
theorem joined_nil (r : List Int × Nat) : (r.2 ≠ 0 → r.1 = []) → joined [] r = r := by
  intro h
  unfold joined
  split
  · rename_i h0; rw [List.nil_append, ← h0]
  · rename_i h0; rw [← h h0]
theorem takeVals_err (n : Nat) (l : List Nat) : (takeVals n l).2 ≠ 0 → (takeVals n l).1 = [] := by
  intro h
  cases n with
  | zero => simp [takeVals] at h
  | succ n =>
    cases l with
    | nil => rfl
    | cons c l =>
      simp only [takeVals] at h ⊢
      split
      · rfl
      · rename_i h1
        rw [if_neg h1] at h
        split
        · rename_i h2; rw [if_pos h2] at h; simp at h
        · rfl
theorem joined_end (xs : List Int) (n : Nat) (l : List Nat) (h : l = []) : joined xs (takeVals (n + 1) l) = ([], 1) := by
  subst h; simp [takeVals, joined]
theorem joined_err (xs : List Int) (n c : Nat) (l : List Nat) (h : (valOf c).2 ≠ 0) : joined xs (takeVals (n + 1) (c :: l)) = ([], (valOf c).2) := by
  simp only [takeVals, if_pos h, joined, if_neg h]
theorem joined_next (xs : List Int) (n c : Nat) (l : List Nat) (h : (valOf c).2 = 0) : joined xs (takeVals (n + 1) (c :: l)) = joined (xs ++ [(c : Int)]) (takeVals n l) := by
  simp only [takeVals, h, ne_eq, not_true_eq_false, if_false]
  unfold joined
  by_cases h2 : (takeVals n l).2 = 0
  · simp [h2]
  · simp [h2]
def Vals3 (w : World) (r : List Int × Nat × Nat) (e : Ending) (w' : World) : Prop :=
  ∃ v, e = .returned (.tuple #[v, .int .i64 (r.2.1 : Int), .int .i64 (r.2.2 : Int)]) ∧ OwnI w' w.heap.size v r.1 ∧ Below w.heap.size w w'
set_option maxHeartbeats 1000000 in
set_option maxRecDepth 100000 in
theorem vals_over (b off len s u e : Nat) (w : World) (HU : Hid (∀ A c', Calls Try.prog 33 #[.slice A 0 c', .int .i64 32] w (TellsU w (u, s, e)))) (he : ((e : Int) != 0) = true) :
    Calls Try.prog 30 #[.slice (some ⟨b, off, none⟩) len len, .int .i64 (len : Int)] w (Vals3 w ([], 0, e)) := by
  go_enter Try.func30, Try.ntmps30
  go_wp2_with fail
  refine (HU.out _ _).mono ?_
  rintro e w1 ⟨rfl, hb1⟩
  go_wp2
  go_ret3
  exact ⟨_, rfl, OwnI.nil _ _, hb1⟩
section
variable (b off p len c s u : Nat) (w : World) (hp : p ≤ len) (hpc : p < c)
include hp hpc
set_option maxHeartbeats 1000000 in
set_option maxRecDepth 100000 in
theorem vals_err (e : Nat) (HU : Hid (Calls Try.prog 33 #[.slice (some ⟨b, off + p, none⟩) (len - p) (c - p), .int .i64 32] w (TellsU w (u, s, e)))) (he : ((e : Int) != 0) = true) :
    Calls Try.prog 30 #[.slice (some ⟨b, off, none⟩) len c, .int .i64 (p : Int)] w (Vals3 w ([], 0, e)) := by
  have hpi : (p : Int) ≤ (len : Int) := by omega
  go_enter Try.func30, Try.ntmps30
  go_wp2_with fail
  refine HU.out.mono ?_
  rintro e w1 ⟨rfl, hb1⟩
  go_wp2
  go_ret3
  exact ⟨_, rfl, OwnI.nil _ _, hb1⟩
set_option maxHeartbeats 1000000 in
set_option maxRecDepth 100000 in
theorem vals_many (HU : Hid (Calls Try.prog 33 #[.slice (some ⟨b, off + p, none⟩) (len - p) (c - p), .int .i64 32] w (TellsU w (u, s, 0)))) (hu : (8 : Int) < (u : Int)) :
    Calls Try.prog 30 #[.slice (some ⟨b, off, none⟩) len c, .int .i64 (p : Int)] w (Vals3 w ([], 0, 4)) := by
  have hpi : (p : Int) ≤ (len : Int) := by omega
  go_enter Try.func30, Try.ntmps30
  go_wp2_with fail
  refine HU.out.mono ?_
  rintro e w1 ⟨rfl, hb1⟩
  go_wp2
  go_ret3
  exact ⟨_, rfl, OwnI.nil _ _, hb1⟩
end
set_option maxHeartbeats 4000000 in
set_option maxRecDepth 100000 in
theorem vals_run (b off p c s u : Nat) (l : List Nat) (w : World) (hp : p ≤ l.length) (hpc : p < c) (hlc : l.length ≤ 140737488355328) (hb : Bytes w w.heap.size (some ⟨b, off, none⟩) l) (r : List Int × Nat) (R : List Int × Nat × Nat) (hR : R = if r.2 = 0 then (r.1, p + s + u, 0) else ([], 0, r.2)) (hr : takeVals u (l.drop (p + s)) = r) (hs : p + s ≤ l.length) (hu : u ≤ 8)
    (HU : Hid (Calls Try.prog 33 #[.slice (some ⟨b, off + p, none⟩) (l.length - p) (c - p), .int .i64 32] w (TellsU w (u, s, 0)))) :
    Calls Try.prog 30 #[.slice (some ⟨b, off, none⟩) l.length c, .int .i64 (p : Int)] w (Vals3 w R) := by
  have hpi : (p : Int) ≤ (l.length : Int) := by omega
  have hui : (u : Int) ≤ 8 := by omega
  have HRR := Lib.hid hR
  clear hR
  have HB := Lib.hid hb
  have hsum : (p : Int) + (s : Int) = ((p + s : Nat) : Int) := by omega
  have HR : Hid (joined [] (takeVals u (l.drop (p + s))) = r) := Lib.hid (by rw [joined_nil _ (takeVals_err _ _), hr])
  have HLC := Lib.hid hlc
  clear hb hr hlc
  have hqw : wrap64 ((p + s : Nat) : Int) = ((p + s : Nat) : Int) := IntWalk.wrap64_in _ (by have := HLC.out; omega)
  generalize hq : p + s = q at *
  go_enter Try.func30, Try.ntmps30
  go_wp2_with fail
  refine HU.out.mono ?_
  rintro e w1 ⟨rfl, hb1⟩
  clear HU
  go_wp2
  simp only [hqw]
  clear hqw
  go_loopw [1, 10] (fun x v wr => ∃ (j : Nat) (xs : List Int), j ≤ u ∧ xs.length = j ∧ q + j ≤ l.length ∧ x = .int .i64 ((q + j : Nat) : Int) ∧ OwnI wr w.heap.size v xs ∧ Below w.heap.size w wr ∧ Hid (joined xs (takeVals (u - j) (l.drop (q + j))) = r)) (fun x _ _ => (q + u) - (intOf x).toNat)
  case atStart => exact ⟨0, [], Nat.zero_le _, rfl, hs, by go_num, OwnI.nil _ _, hb1, HR⟩
  case round =>
    obtain ⟨j, xs, hj, hx, hqj, rfl, hown, hbel, HJ⟩ := hrel
    clear hb1 HR
    have hB := HB.out.below hbel
    have hsz := hbel.size
    obtain ⟨A, cap, hv0, hints, _, _⟩ := hown.ints
    rw [hx] at hv0
    subst hv0
    have HX := Lib.hid hx
    clear hints hx
    have hl47 := HLC.out
    by_cases hju : j < u
    · have hjui : (j : Int) < (u : Int) := by omega
      by_cases hend : q + j = l.length
      · have he : R = ([], 0, 1) := by
          have h1 := HJ.out
          rw [show u - j = (u - j - 1) + 1 from by omega, joined_end _ _ _ (List.drop_of_length_le (by omega))] at h1
          rw [HRR.out, ← h1]; rfl
        have HE := Lib.hid he
        have hge : (l.length : Int) ≤ ((q + j : Nat) : Int) := by omega
        clear he HJ HRR hB HB
        go_wp2
        go_ret3
        rw [HE.out]
        exact ⟨_, rfl, OwnI.nil _ _, hbel⟩
      · have hlt : q + j < l.length := by omega
        have hge : ¬ (l.length : Int) ≤ ((q + j : Nat) : Int) := by omega
        obtain ⟨b', off', hA, hbl, hcs⟩ := hB.2 (by omega)
        injection hA with hA
        injection hA with hA1 hA2 _
        subst hA1 hA2
        have hc := hcs (q + j) hlt
        have hdrop : l.drop (q + j) = l[q + j] :: l.drop (q + (j + 1)) := by rw [List.drop_eq_getElem_cons hlt]; rfl
        have HJ2 := HJ.out
        rw [show u - j = (u - (j + 1)) + 1 from by omega, hdrop] at HJ2
        have HV := Lib.hid (fun W => val_any l[q + j] W)
        by_cases hv : (valOf l[q + j]).2 = 0
        · rw [joined_next _ _ _ _ hv] at HJ2
          have hval : valOf l[q + j] = (l[q + j], 0) := by
            rcases valOf_cases l[q + j] with h | h | h
            · exact h.1
            · rw [h] at hv; simp at hv
            · rw [h] at hv; simp at hv
          rw [hval] at HV
          have HJ3 := Lib.hid HJ2
          clear hcs hdrop HJ2 hval hv HJ hB
          generalize l[q + j] = y at *
          go_wp2_with fail
          refine (HV.out _).mono ?_
          rintro e w2 ⟨rfl, rfl⟩
          go_wp2_with (at_builtin; refine app_int rfl (.tmp 49) (.tmp 51) rfl w.heap.size _ xs rfl (hown.alloc _) wr.heap.size (y : Int) rfl (by simp) (by rw [HX.out]; omega) (by simp; omega) ?_; intro v3 w3 hown3 hbel3)
          go_roundw
          case rel => exact ⟨j + 1, xs ++ [(y : Int)], by omega, by simp [HX.out], by omega, by go_num, hown3, (hbel.alloc hsz _).trans hbel3, HJ3⟩
          case measure => simp [intOf]; omega
        · rw [joined_err _ _ _ _ hv] at HJ2
          have he : R = ([], 0, (valOf l[q + j]).2) := by rw [HRR.out, ← HJ2, if_neg hv]
          have HE := Lib.hid he
          have hvi : (((valOf l[q + j]).2 : Int) != 0) = true := by simp; omega
          clear hcs hdrop HJ2 he hv HJ HRR hB
          unfold Val2 at HV
          generalize (valOf l[q + j]).2 = ve at *
          generalize (valOf l[q + j]).1 = vv at *
          generalize l[q + j] = y at *
          go_wp2_with fail
          refine (HV.out _).mono ?_
          rintro e w2 ⟨rfl, rfl⟩
          go_wp2
          go_ret3
          rw [HE.out]
          exact ⟨_, rfl, OwnI.nil _ _, hbel⟩
    · obtain rfl : j = u := by omega
      have he : R = (xs, q + j, 0) := by
        have h1 := HJ.out
        rw [Nat.sub_self] at h1
        simp only [takeVals, joined, if_true, List.append_nil] at h1
        rw [HRR.out, ← h1]; rfl
      have HE := Lib.hid he
      clear he HJ HRR hB HB
      go_wp2
      go_ret3
      rw [HE.out]
      exact ⟨_, rfl, hown, hbel⟩
theorem vals_any (b off p c : Nat) (l : List Nat) (w : World) (hp : p ≤ l.length) (hlc : l.length ≤ c) (hl47 : l.length ≤ 140737488355328) (hb : Bytes w w.heap.size (some ⟨b, off, none⟩) l) :
    Calls Try.prog 30 #[.slice (some ⟨b, off, none⟩) l.length c, .int .i64 (p : Int)] w (Vals3 w (valsRes l p)) := by
  have hdl : (l.drop p).length = l.length - p := by simp
  by_cases hpc : p = c
  · have hpl : p = l.length := by omega
    have hcl : c = l.length := by omega
    subst hcl
    have hd : l.drop p = [] := List.drop_of_length_le (by omega)
    have hR : valsRes l p = ([], 0, 1) := by unfold valsRes; rw [hd]; rfl
    rw [hR]
    have HU : Hid (∀ A c', Calls Try.prog 33 #[.slice A 0 c', .int .i64 32] w (TellsU w (0, 0, 1))) := Lib.hid fun A c' => by
      exact rU_any A [] c' 32 w ⟨by simp, by simp⟩ (by omega) (by omega)
    rw [hpl]
    exact vals_over b off l.length 0 0 1 w HU (by decide)
  · have hpc' : p < c := by omega
    have HB : Bytes w w.heap.size (some ⟨b, off + p, none⟩) (l.drop p) := by
      refine ⟨fun x hx => hb.1 x (List.mem_of_mem_drop hx), fun hl => ?_⟩
      obtain ⟨b', off', e, hbb, hc⟩ := hb.2 (by simp at hl; omega)
      injection e with e
      injection e with e1 e2 _
      subst e1 e2
      refine ⟨b, off + p, rfl, hbb, fun j hj => ?_⟩
      have hj' : p + j < l.length := by simp at hj; omega
      rw [Nat.add_assoc, hc (p + j) hj']
      simp
    have hU := rU_any _ (l.drop p) (c - p) 32 w HB (by omega) (by omega)
    rw [hdl] at hU
    have HU := Lib.hid hU
    have h32 := uRes_32 (l.drop p)
    unfold valsRes
    generalize uRes (l.drop p) 32 = g at *
    obtain ⟨u, s, e⟩ := g
    simp only at h32 ⊢
    by_cases he : e = 0
    · subst he
      rw [if_neg (by simp)]
      obtain ⟨h1, h2, h3⟩ := h32 rfl
      by_cases hu : 8 < u
      · rw [if_pos hu]
        exact vals_many b off p l.length c s u w hp hpc' HU (by omega)
      · rw [if_neg hu]
        exact vals_run b off p c s u l w hp hpc' hl47 hb _ _ rfl rfl (by omega) (by omega) HU
    · rw [if_pos he]
      exact vals_err b off p l.length c s u w hp hpc' e HU (by simp; omega)
end Go.Proofs.Ythhdbjpimjkekaa.Typ
