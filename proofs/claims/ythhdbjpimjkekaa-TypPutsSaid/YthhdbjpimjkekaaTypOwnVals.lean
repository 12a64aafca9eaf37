/-
  typ.values: so many types, or the first error. Condition: the slice leads to bytes, at most 1000.
-/
import Derived.Test.YthhdbjpimjkekaaTypOwnLow
import Derived.OwnWalk
namespace Go.Proofs.Ythhdbjpimjkekaa.Typ
open Go.RowKit Leb

theorem U_below (A : Option Addr) (l : List Nat) (cap B n : Nat) (w : World) (hb : Bytes w B A l) (h0 : 1 ≤ n) (h64 : n ≤ 64) :
    Calls Try.prog 32 #[.slice A l.length cap, .int .i64 (n : Int)] w (TellsU w (uRes l n)) :=
  (U_any A l cap B n w hb h0 h64).mono fun _ _ ⟨h, m, e⟩ => ⟨h, by subst e; exact below_drewN (Below.refl _ _) m⟩
def partI (u : Nat) (xs : List Int) : List Int := xs ++ List.replicate (u - xs.length) 0
theorem partI_len (u : Nat) (xs : List Int) (h : xs.length ≤ u) : (partI u xs).length = u := by simp [partI]; omega
theorem partI_set (u : Nat) (xs : List Int) (y : Int) (h : xs.length < u) : (partI u xs).set xs.length y = partI u (xs ++ [y]) := by
  unfold partI
  rw [List.set_append_right _ _ (Nat.le_refl _), Nat.sub_self, List.length_append, show u - xs.length = (u - (xs.length + [y].length)) + 1 from by simp; omega, List.replicate_succ, List.set_cons_zero]
  simp
theorem partI_end (xs : List Int) : partI xs.length xs = xs := by simp [partI]
theorem made_i64 (n : Nat) : (madeCells (Value.int .i64 0).cells n).toList = (partI n []).map iv := by
  have hz : (Value.int .i64 0).cells = #[.int .i64 0] := by simp [Value.cells]
  rw [hz, toList_madeCells_one]
  simp [partI, iv]
section
variable (A : Option Addr) (len c s u : Nat) (w : World)
set_option maxHeartbeats 1000000 in
set_option maxRecDepth 100000 in
theorem ovals_err (e : Nat) (HU : Hid (Calls Try.prog 32 #[.slice A len c, .int .i64 32] w (TellsU w (u, s, e)))) (he : ((e : Int) != 0) = true) :
    Calls Try.prog 29 #[.slice A len c] w (Vals3 w ([], 0, e)) := by
  go_enter Try.func29, Try.ntmps29
  go_wp2_with fail
  refine HU.out.mono ?_
  rintro e w1 ⟨rfl, hb1⟩
  go_wp2
  go_ret3
  exact ⟨_, rfl, OwnI.nil _ _, hb1⟩
set_option maxHeartbeats 1000000 in
set_option maxRecDepth 100000 in
theorem ovals_many (HU : Hid (Calls Try.prog 32 #[.slice A len c, .int .i64 32] w (TellsU w (u, s, 0)))) (hu : (8 : Int) < (u : Int)) :
    Calls Try.prog 29 #[.slice A len c] w (Vals3 w ([], 0, 4)) := by
  go_enter Try.func29, Try.ntmps29
  go_wp2_with fail
  refine HU.out.mono ?_
  rintro e w1 ⟨rfl, hb1⟩
  go_wp2
  go_ret3
  exact ⟨_, rfl, OwnI.nil _ _, hb1⟩
end
theorem bytes_drop {w : World} {B : Nat} {b off : Nat} {l : List Nat} (hb : Bytes w B (some ⟨b, off, none⟩) l) (p : Nat) : Bytes w B (some ⟨b, off + p, none⟩) (l.drop p) := bytes_from hb p
set_option maxHeartbeats 4000000 in
set_option maxRecDepth 100000 in
theorem ovals_run (b off c s u : Nat) (l : List Nat) (w : World) (hlc : l.length ≤ c) (hl : l.length ≤ 1000) (hb : Bytes w w.heap.size (some ⟨b, off, none⟩) l) (r : List Int × Nat) (R : List Int × Nat × Nat) (hR : R = if r.2 = 0 then (r.1, s + u, 0) else ([], 0, r.2)) (hr : takeVals u (l.drop s) = r) (hs : s ≤ l.length) (hu : u ≤ 8)
    (HU : Hid (Calls Try.prog 32 #[.slice (some ⟨b, off, none⟩) l.length c, .int .i64 32] w (TellsU w (u, s, 0)))) :
    Calls Try.prog 29 #[.slice (some ⟨b, off, none⟩) l.length c] w (Vals3 w R) := by
  obtain ⟨i0, hi0, hz0, hz1, hz2⟩ := info_parts int_info
  have Hi := Lib.hid hz2
  have hui : ¬ (8 : Int) < (u : Int) := by omega
  have HRR := Lib.hid hR
  have HB := Lib.hid hb
  have HR : Hid (joined [] (takeVals u (l.drop s)) = r) := Lib.hid (by rw [joined_nil _ (takeVals_err _ _), hr])
  have HLC := Lib.hid hlc
  have HL := Lib.hid hl
  clear hb hr hlc hl hR hz2
  go_enter Try.func29, Try.ntmps29
  go_wp2_with fail
  refine HU.out.mono ?_
  rintro e w1 ⟨rfl, hb1⟩
  have hsz1 := hb1.size
  clear HU
  go_wp2_with (at_make; refine wpList_make_full _ rfl _ _ 24 rfl w.heap.size 3 i0 (.int .i64 0) 1 Try.underlying24 hi0 hz0 hz1 _ _ _ _ u rfl rfl rfl rfl (by rw [Hi.out]; omega) (by simp only [maxLen]; omega) hsz1 ?_; intro w2 hown2 hgrow2)
  have hb2 : Below w.heap.size w w2 := hb1.trans ((Below.refl _ _).grown hgrow2 hsz1 (fun k h => by cases h))
  have hO : OwnI w2 w.heap.size (.slice (some ⟨w1.heap.size, 0, none⟩) u u) (partI u []) := by
    unfold OwnI
    rw [partI_len u [] (Nat.zero_le _), ← made_i64]
    simpa using hown2
  clear hown2 hgrow2 hb1
  generalize w1.heap.size = g at *
  go_loopw [6, 28] (fun x i wr => ∃ (j : Nat) (xs : List Int), j ≤ u ∧ xs.length = j ∧ s + j ≤ l.length ∧ x = .int .i64 ((s + j : Nat) : Int) ∧ i = .int .i64 (j : Int) ∧ OwnI wr w.heap.size (.slice (some ⟨g, 0, none⟩) u u) (partI u xs) ∧ Below w.heap.size w wr ∧ Hid (joined xs (takeVals (u - j) (l.drop (s + j))) = r)) (fun _ i _ => u - (intOf i).toNat)
  case atStart => exact ⟨0, [], Nat.zero_le _, rfl, hs, by go_num, rfl, hO, hb2, HR⟩
  case round =>
    obtain ⟨j, xs, hj, hx, hqj, rfl, rfl, hown, hbel, HJ⟩ := hrel
    clear hb2 HR hO
    have hB := HB.out.below hbel
    have hl47 := HL.out
    by_cases hju : j < u
    · have hjui : (j : Int) < (u : Int) := by omega
      by_cases hend : s + j = c
      · have hlen : s + j = l.length := by have := HLC.out; omega
        have he : R = ([], 0, 1) := by
          have h1 := HJ.out
          rw [show u - j = (u - j - 1) + 1 from by omega, joined_end _ _ _ (List.drop_of_length_le (by omega))] at h1
          rw [HRR.out, ← h1]; rfl
        have HE := Lib.hid he
        have HV := Lib.hid (fun A c' W => oval_0 A c' W)
        have hcl : c = l.length := by omega
        clear he HJ HRR hB HB hown
        subst hcl
        rw [← hlen] at *
        go_wp2_with fail
        refine (HV.out _ _ _).mono ?_
        rintro e w3 ⟨rfl, rfl⟩
        go_wp2
        go_ret3
        rw [HE.out]
        exact ⟨_, rfl, OwnI.nil _ _, hbel⟩
      · have hltc : s + j < c := by have := HLC.out; omega
        have hdl : (l.drop (s + j)).length = l.length - (s + j) := by simp
        have hV := fun W (hW : Bytes W w.heap.size (some ⟨b, off + (s + j), none⟩) (l.drop (s + j))) => oval_same (some ⟨b, off + (s + j), none⟩) (l.drop (s + j)) (c - (s + j)) _ W hW
        have hV1 := hV wr (bytes_drop hB (s + j))
        rw [hdl] at hV1
        have hqi : ((s + j : Nat) : Int) ≤ (l.length : Int) := by omega
        have HJ2 := HJ.out
        by_cases hlast : s + j = l.length
        · rw [show u - j = (u - j - 1) + 1 from by omega, joined_end _ _ _ (List.drop_of_length_le (by omega))] at HJ2
          have HE : Hid (R = ([], 0, 1)) := Lib.hid (by rw [HRR.out, ← HJ2]; rfl)
          have hv : valRes (l.drop (s + j)) = (0, 0, 1) := by unfold valRes; rw [if_pos (by rw [hdl]; omega)]
          rw [hv] at hV1
          have HV := Lib.hid hV1
          clear hV1 hV HJ HJ2 HRR hB HB hown hv hdl hlast
          generalize s + j = q at *
          go_wp2_with fail
          refine HV.out.mono ?_
          rintro e w3 ⟨rfl, rfl⟩
          go_wp2
          go_ret3
          rw [HE.out]
          exact ⟨_, rfl, OwnI.nil _ _, hbel⟩
        · have hlt : s + j < l.length := by omega
          have hdrop : l.drop (s + j) = l[s + j] :: l.drop (s + (j + 1)) := by rw [List.drop_eq_getElem_cons hlt]; rfl
          rw [show u - j = (u - (j + 1)) + 1 from by omega, hdrop] at HJ2
          have hv : valRes (l.drop (s + j)) = if (valOf l[s + j]).2 = 0 then (l[s + j], 1, 0) else (0, 0, (valOf l[s + j]).2) := by
            unfold valRes
            rw [if_neg (by rw [hdl]; omega), hdrop]; rfl
          rw [hv] at hV1
          by_cases hv0 : (valOf l[s + j]).2 = 0
          · rw [joined_next _ _ _ _ hv0] at HJ2
            rw [if_pos hv0] at hV1
            have HV := Lib.hid hV1
            have HJ3 := Lib.hid HJ2
            have ho2 : wr.ownsRow w.heap.size 3 1 (.slice (some ⟨g, 0, none⟩) u u) u ((partI u xs).map iv) := by
              have := hown
              unfold OwnI at this
              rw [partI_len u xs (by omega)] at this
              exact this
            have hc := ho2.cellAt j (by omega)
            have hf := ho2.frozenAt j
            have hvv : ∃ v, wr.cell? ⟨g, j, none⟩ = some v := ⟨_, hc.trans (List.getElem?_eq_getElem (by rw [List.length_map, partI_len u xs (by omega)]; exact hju))⟩
            obtain ⟨v0, hv0'⟩ := hvv
            obtain ⟨hs1, hs2⟩ := ho2.stored j (iv (l[s + j] : Int))
            have hset : ((partI u xs).map iv).set j (iv (l[s + j] : Int)) = (partI u (xs ++ [(l[s + j] : Int)])).map iv := by rw [← List.map_set]; congr 1; have := partI_set u xs (l[s + j] : Int) (by omega); rw [hx] at this; exact this
            rw [hset] at hs1
            have HO : Hid (OwnI (wr.setCell ⟨g, j, none⟩ (iv (l[s + j] : Int))) w.heap.size (.slice (some ⟨g, 0, none⟩) u u) (partI u (xs ++ [(l[s + j] : Int)]))) := Lib.hid (by
              unfold OwnI
              rw [partI_len u _ (by simp; omega)]
              exact hs1)
            have hgb : w.heap.size ≤ g := by
              have := (World.ownsRow.lt ho2 g rfl).1
              exact this
            have hs1' : s + (j + 1) ≤ l.length := by omega
            have hqn : ((s + j : Nat) : Int) + 1 = ((s + (j + 1) : Nat) : Int) := by omega
            clear hV1 hV HJ HJ2 hB hown hv hdl hdrop hlast hv0 hc ho2 hs1 hs2 hset HB
            generalize l[s + j] = y at *
            generalize hq2 : s + (j + 1) = q2 at *
            generalize hq : s + j = q at *
            go_wp2_with fail
            refine HV.out.mono ?_
            rintro e w3 ⟨rfl, rfl⟩
            go_wp2
            go_roundw
            case rel => exact ⟨j + 1, xs ++ [(y : Int)], by omega, by simp [hx], by omega, by go_num, by go_num, HO.out, hbel.setCell hgb _, by rw [hq2]; exact HJ3⟩
            case measure => simp [intOf]; omega
          · rw [joined_err _ _ _ _ hv0] at HJ2
            rw [if_neg hv0] at hV1
            have HE : Hid (R = ([], 0, (valOf l[s + j]).2)) := Lib.hid (by rw [HRR.out, ← HJ2, if_neg hv0])
            have hvi : (((valOf l[s + j]).2 : Int) != 0) = true := by simp; omega
            have HV := Lib.hid hV1
            clear hV1 hV HJ HJ2 HRR hB HB hown hv hdl hdrop hlast hv0
            unfold ValS at HV
            generalize (valOf l[s + j]).2 = ve at *
            generalize l[s + j] = y at *
            generalize s + j = q at *
            go_wp2_with fail
            refine HV.out.mono ?_
            rintro e w3 ⟨rfl, rfl⟩
            go_wp2
            go_ret3
            rw [HE.out]
            exact ⟨_, rfl, OwnI.nil _ _, hbel⟩
    · obtain rfl : j = u := by omega
      have hjui : ¬ (j : Int) < (j : Int) := by omega
      have he : R = (xs, s + j, 0) := by
        have h1 := HJ.out
        rw [Nat.sub_self] at h1
        simp only [takeVals, joined, if_true, List.append_nil] at h1
        rw [HRR.out, ← h1]; rfl
      have HE := Lib.hid he
      have hpe : partI j xs = xs := by rw [← hx]; exact partI_end xs
      rw [hpe] at hown
      clear he HJ HRR hB HB
      go_wp2
      go_ret3
      rw [HE.out]
      exact ⟨_, rfl, hown, hbel⟩
theorem ovals_any (A : Option Addr) (l : List Nat) (c : Nat) (w : World) (hb : Bytes w w.heap.size A l) (hlc : l.length ≤ c) (hl : l.length ≤ 1000) :
    Calls Try.prog 29 #[.slice A l.length c] w (Vals3 w (valsRes l 0)) := by
  have HU := Lib.hid (U_below A l c _ 32 w hb (by omega) (by omega))
  have h32 := uRes_32 l
  unfold valsRes
  simp only [List.drop_zero, Nat.zero_add]
  generalize uRes l 32 = g at *
  obtain ⟨u, s, e⟩ := g
  simp only at h32 ⊢
  by_cases he : e = 0
  · subst he
    rw [if_neg (by simp)]
    obtain ⟨h1, h2, h3⟩ := h32 rfl
    by_cases hu : 8 < u
    · rw [if_pos hu]
      exact ovals_many A l.length c s u w HU (by omega)
    · rw [if_neg hu]
      obtain ⟨b, off, rfl, _⟩ := hb.2 (by omega)
      exact ovals_run b off c s u l w hlc hl hb _ _ rfl rfl (by omega) (by omega) HU
  · rw [if_pos he]
    exact ovals_err A l.length c s u w e HU (by simp; omega)
end Go.Proofs.Ythhdbjpimjkekaa.Typ
