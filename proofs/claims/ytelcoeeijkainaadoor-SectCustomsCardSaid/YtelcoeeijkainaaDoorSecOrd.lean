/-
  sect's order: slices.Index at ints, sect.place, order.take: what each comes to; that it tells what may stand where. Conditions: the order's cell; slices lead to ints.
-/
import Derived.Test.YtelcoeeijkainaaDoorSecApp
namespace Go.Proofs.YtelcoeeijkainaaDoor.Sec
open Go.RowKit Leb

/-- Ints that a slice leads to: each a cell of its own, in a block below B. -/
def Ints (w : World) (B : Nat) (A : Option Addr) (l : List Int) : Prop :=
  0 < l.length → ∃ b off, A = some ⟨b, off, none⟩ ∧ b < B ∧ ∀ (j : Nat) (h : j < l.length), w.cell? ⟨b, off + j, none⟩ = some (.int .i64 l[j])
/-- What Index answers. -/
def IdxIs (l : List Int) (x k : Int) : Prop := (k = -1 ∧ x ∉ l) ∨ ∃ (j : Nat) (h : j < l.length), k = (j : Int) ∧ l[j] = x
set_option maxHeartbeats 1000000 in
theorem index_any (A : Option Addr) (l : List Int) (c B : Nat) (x : Int) (w : World) (hb : Ints w B A l) (h47 : l.length ≤ 1000) :
    Calls Tryd.prog 32 #[.slice A l.length c, .int .i64 x] w fun e w' => ∃ k : Int, e = .returned (.int .i64 k) ∧ w = w' ∧ IdxIs l x k := by
  go_enter Tryd.func32, Tryd.ntmps32
  go_wp2
  go_loop [8] (fun i => ∃ k : Nat, k ≤ l.length ∧ i = .int .i64 (k : Int) ∧ Hid (x ∉ l.take k)) (fun i => l.length - (intOf i).toNat)
  case atStart => exact ⟨0, Nat.zero_le _, rfl, Lib.hid (by simp)⟩
  case round =>
    obtain ⟨k, hk, rfl, HK⟩ := hrel
    by_cases hlt : k < l.length
    · obtain ⟨b, off, rfl, _, hcs⟩ := hb (by omega)
      have hc := hcs k hlt
      have hlti : (k : Int) < (l.length : Int) := by omega
      have HN : Hid (x ≠ l[k] → x ∉ l.take (k + 1)) := Lib.hid fun h hx => by
        rw [List.take_succ_eq_append_getElem hlt] at hx
        rcases List.mem_append.1 hx with hx | hx
        · exact HK.out hx
        · exact h (by simpa using hx)
      have HM : Hid (x = l[k] → IdxIs l x (k : Int)) := Lib.hid fun h => .inr ⟨k, hlt, rfl, h.symm⟩
      clear hcs hb HK
      generalize l[k] = y at *
      by_cases hxy : x = y
      · have HM2 := Lib.hid (HM.out hxy)
        subst hxy
        have hbb : (x == x) = true := by simp
        clear HM HN
        go_wp2
        go_ret
        exact ⟨_, rfl, rfl, HM2.out⟩
      · have hbb : (x == y) = false := by simp [hxy]
        have HN2 := Lib.hid (HN.out hxy)
        clear hxy HN HM
        go_wp2
        go_round
        case rel => exact ⟨k + 1, by omega, by go_num, HN2⟩
        case measure => simp [intOf]; omega
    · have hlti : ¬ (k : Int) < (l.length : Int) := by omega
      have HE : Hid (x ∉ l) := Lib.hid (by have := HK.out; rwa [List.take_of_length_le (by omega)] at this)
      clear HK hb
      go_wp2
      go_ret
      exact ⟨_, rfl, rfl, .inl ⟨rfl, HE.out⟩⟩
def orderL : List Int := [1, 2, 3, 4, 5, 6, 7, 8, 9, 12, 10, 11]
/-- The place of a section's number, from 1 on; 0: there is no such number. -/
def plc (id : Int) : Int := if id = 12 then 10 else if id = 10 then 11 else if id = 11 then 12 else if 1 ≤ id ∧ id ≤ 9 then id else 0
theorem plc_idx {id k : Int} (h : IdxIs orderL id k) : k + 1 = plc id ∧ -1 ≤ k ∧ k ≤ 11 := by
  rcases h with ⟨rfl, h⟩ | ⟨j, hj, rfl, h⟩
  · simp only [orderL, List.mem_cons, List.not_mem_nil, or_false, not_or] at h
    refine ⟨?_, by omega, by omega⟩
    unfold plc
    repeat' split
    all_goals omega
  · have h12 : j < 12 := hj
    have h2 : orderL.getD j 0 = id := by rw [← h]; simp [List.getD, hj]
    clear h hj
    match j, h12, h2 with
    | 0, _, h | 1, _, h | 2, _, h | 3, _, h | 4, _, h | 5, _, h | 6, _, h | 7, _, h | 8, _, h | 9, _, h | 10, _, h | 11, _, h => subst h; decide
theorem plc_range (id : Int) : 0 ≤ plc id ∧ plc id ≤ 12 := by
  unfold plc
  repeat' split
  all_goals omega
theorem orderL_ints (w : World) (t : TypeId) : Ints (w.alloc (.cells #[.int .i64 1, .int .i64 2, .int .i64 3, .int .i64 4, .int .i64 5, .int .i64 6, .int .i64 7, .int .i64 8, .int .i64 9, .int .i64 12, .int .i64 10, .int .i64 11] t)) (w.heap.size + 1) (some ⟨w.heap.size, 0, none⟩) orderL := by
  refine fun _ => ⟨w.heap.size, 0, rfl, by omega, fun j hj => ?_⟩
  have h12 : j < 12 := hj
  match j, h12 with
  | 0, _ | 1, _ | 2, _ | 3, _ | 4, _ | 5, _ | 6, _ | 7, _ | 8, _ | 9, _ | 10, _ | 11, _ => simp [orderL]
theorem oplace_any (id : Int) (w : World) : Calls Tryd.prog 25 #[.int .i64 id] w fun e w' => e = .returned (.int .i64 (plc id)) ∧ Below w.heap.size w w' := by
  have hb1 : Below w.heap.size w (w.alloc (.cells #[.int .i64 1, .int .i64 2, .int .i64 3, .int .i64 4, .int .i64 5, .int .i64 6, .int .i64 7, .int .i64 8, .int .i64 9, .int .i64 12, .int .i64 10, .int .i64 11] 3)) := (Below.refl _ _).alloc (Nat.le_refl _) _
  have HC := Lib.hid (index_any (some ⟨w.heap.size, 0, none⟩) orderL 12 (w.heap.size + 1) id _ (orderL_ints w 3) (by decide))
  rw [show orderL.length = 12 from rfl] at HC
  go_enter Tryd.func25, Tryd.ntmps25
  go_wp2_with fail
  refine HC.out.mono ?_
  rintro e w1 ⟨k, rfl, rfl, hk⟩
  obtain ⟨h1, h2, h3⟩ := plc_idx hk
  clear hk HC
  go_wp2
  go_ret
  exact ⟨rfl, hb1⟩
/-- The order in block r: its place. -/
structure OrdAt (w : World) (r : Nat) (last : Int) : Prop where
  lt : r < w.heap.size
  c0 : w.cell? ⟨r, 0, none⟩ = some (.int .i64 last)
  z0 : w.frozen? ⟨r, 0, none⟩ = false
theorem OrdAt.step {w w' : World} {r : Nat} {last : Int} (h : OrdAt w r last) (hs : w.heap.size ≤ w'.heap.size) (hh : w'.heap[r]? = w.heap[r]?) : OrdAt w' r last := by
  have C : w'.cell? ⟨r, 0, none⟩ = w.cell? ⟨r, 0, none⟩ := World.cell?_of_block hh
  have F : w'.frozen? ⟨r, 0, none⟩ = w.frozen? ⟨r, 0, none⟩ := World.frozen?_of_block hh
  exact ⟨Nat.lt_of_lt_of_le h.lt hs, C.trans h.c0, F.trans h.z0⟩
theorem OrdAt.keep {w w' : World} {r : Nat} {last : Int} (h : OrdAt w r last) (hb : Below w.heap.size w w') : OrdAt w' r last := h.step hb.size (hb.block _ h.lt)
theorem OrdAt.set {w : World} {r : Nat} {last : Int} (h : OrdAt w r last) (p : Int) : OrdAt (w.setCell ⟨r, 0, none⟩ (.int .i64 p)) r p :=
  ⟨by simpa using h.lt, World.cell?_setCell_same _ _ _ h.c0, by simpa using h.z0⟩
theorem OrdAt.new (w : World) (t : TypeId) : OrdAt (w.alloc (.cells #[.int .i64 0] t)) w.heap.size 0 := ⟨by simp, by simp, by simp⟩
/-- May a section of this number stand there, and the order behind it. -/
def takeB (last id : Int) : Bool := decide (id = 0 ∨ last < plc id)
def takeL (last id : Int) : Int := if id = 0 then last else if last < plc id then plc id else last
def TakeIs (w : World) (r : Nat) (last : Int) (b : Bool) (e : Ending) (w' : World) : Prop := e = .returned (.bool b) ∧ OrdAt w' r last ∧ w.grownBy w' (some r)
section
variable (w : World) (r : Nat) (last : Int)
theorem take_0 (H : OrdAt w r last) : Calls Tryd.prog 18 #[.pointer (some ⟨r, 0, none⟩), .int .i64 0] w (TakeIs w r last true) := by
  have HH := Lib.hid H
  clear H
  go_enter Tryd.func18, Tryd.ntmps18
  go_wp2
  go_ret
  exact ⟨rfl, HH.out, by_refl _ _⟩
theorem take_no (id p : Int) (hid : (id == 0) = false) (hp : p ≤ last) (H : OrdAt w r last) (HP : Hid (Calls Tryd.prog 25 #[.int .i64 id] w fun e w' => e = .returned (.int .i64 p) ∧ Below w.heap.size w w')) : Calls Tryd.prog 18 #[.pointer (some ⟨r, 0, none⟩), .int .i64 id] w (TakeIs w r last false) := by
  have HH := Lib.hid H
  clear H
  go_enter Tryd.func18, Tryd.ntmps18
  go_wp2_with fail
  refine HP.out.mono ?_
  rintro e w1 ⟨rfl, hb⟩
  have H1 := HH.out.keep hb
  have HF := Lib.hid (And.intro H1 (by_below hb (some r)))
  obtain ⟨h1, h2, h3⟩ := H1
  clear hb HP HH
  go_wp2
  go_ret
  exact ⟨rfl, HF.out.1, HF.out.2⟩
theorem take_yes (id p : Int) (hid : (id == 0) = false) (hp : ¬ p ≤ last) (H : OrdAt w r last) (HP : Hid (Calls Tryd.prog 25 #[.int .i64 id] w fun e w' => e = .returned (.int .i64 p) ∧ Below w.heap.size w w')) : Calls Tryd.prog 18 #[.pointer (some ⟨r, 0, none⟩), .int .i64 id] w (TakeIs w r p true) := by
  have HH := Lib.hid H
  clear H
  go_enter Tryd.func18, Tryd.ntmps18
  go_wp2_with fail
  refine HP.out.mono ?_
  rintro e w1 ⟨rfl, hb⟩
  have H1 := HH.out.keep hb
  have HF := Lib.hid (And.intro H1 (by_below hb (some r)))
  obtain ⟨h1, h2, h3⟩ := H1
  clear hb HP HH
  go_wp2
  go_ret
  exact ⟨rfl, HF.out.1.set _, by_trans HF.out.2 (by_set _ _ _ _)⟩
theorem take_any (id : Int) (H : OrdAt w r last) : Calls Tryd.prog 18 #[.pointer (some ⟨r, 0, none⟩), .int .i64 id] w (TakeIs w r (takeL last id) (takeB last id)) := by
  by_cases h0 : id = 0
  · subst h0
    rw [show takeB last 0 = true from decide_eq_true (.inl rfl), show takeL last 0 = last from if_pos rfl]
    exact take_0 w r last H
  · by_cases hp : last < plc id
    · rw [show takeB last id = true from decide_eq_true (.inr hp), show takeL last id = plc id from by unfold takeL; rw [if_neg h0, if_pos hp]]
      exact take_yes w r last id (plc id) (by simp [h0]) (by omega) H (Lib.hid (oplace_any id w))
    · rw [show takeB last id = false from decide_eq_false (fun h => h.elim h0 hp), show takeL last id = last from by unfold takeL; rw [if_neg h0, if_neg hp]]
      exact take_no w r last id (plc id) (by simp [h0]) (by omega) H (Lib.hid (oplace_any id w))
end
/-- How far sections have come. -/
structure LastIs (out : List Sec) (p : Int) : Prop where
  all : ∀ s ∈ out, s.id = 0 ∨ plc s.id ≤ p
  last : p = 0 ∨ ∃ s ∈ out, s.id ≠ 0 ∧ plc s.id = p
  ids : ∀ s ∈ out, 0 ≤ s.id ∧ s.id ≤ 12
  lo : 0 ≤ p
theorem last_nil : LastIs [] 0 := ⟨by simp, .inl rfl, by simp, by omega⟩
theorem place_plc {a b : Int} (ha : 1 ≤ a ∧ a ≤ 12) (hb : 1 ≤ b ∧ b ≤ 12) : placeOf a < placeOf b ↔ plc a < plc b := by
  unfold placeOf plc
  repeat' split
  all_goals omega
theorem plc_pos {id : Int} (h : 1 ≤ plc id) : 1 ≤ id ∧ id ≤ 12 := by
  unfold plc at h
  repeat' split at h
  all_goals omega
theorem LastIs.may {out : List Sec} {p : Int} (h : LastIs out p) (id : Int) : may out id = takeB p id := by
  unfold Sec.may takeB
  apply decide_eq_decide.2
  constructor
  · rintro ⟨h1, h2, h3⟩
    by_cases h0 : id = 0
    · exact .inl h0
    · refine .inr ?_
      have hr : 1 ≤ id ∧ id ≤ 12 := by omega
      rcases h.last with rfl | ⟨s, hs, hs0, rfl⟩
      · unfold plc
        repeat' split
        all_goals omega
      · have hsr := h.ids s hs
        rcases h3 s hs with h4 | h4 | h4
        · exact absurd h4 h0
        · exact absurd h4 hs0
        · exact (place_plc (by omega) hr).1 h4
  · rintro (rfl | h4)
    · exact ⟨by omega, by omega, fun s _ => .inl rfl⟩
    · have hlo := h.lo
      have hr := plc_pos (id := id) (by omega)
      refine ⟨by omega, by omega, fun s hs => ?_⟩
      by_cases hs0 : s.id = 0
      · exact .inr (.inl hs0)
      · have hsr := h.ids s hs
        refine .inr (.inr ((place_plc (by omega) hr).2 ?_))
        rcases h.all s hs with h5 | h5
        · exact absurd h5 hs0
        · omega
theorem LastIs.next {out : List Sec} {p : Int} (h : LastIs out p) (s : Sec) (ht : takeB p s.id = true) : LastIs (out ++ [s]) (takeL p s.id) := by
  have hm := h.may s.id
  rw [ht] at hm
  have hr := may_range hm
  have hids : ∀ s' ∈ out ++ [s], 0 ≤ s'.id ∧ s'.id ≤ 12 := by
    intro s' hs
    rcases List.mem_append.1 hs with hs | hs
    · exact h.ids s' hs
    · rw [List.mem_singleton.1 hs]; exact hr
  unfold takeL
  by_cases h0 : s.id = 0
  · rw [if_pos h0]
    refine ⟨fun s' hs => ?_, ?_, hids, h.lo⟩
    · rcases List.mem_append.1 hs with hs | hs
      · exact h.all s' hs
      · rw [List.mem_singleton.1 hs]; exact .inl h0
    · rcases h.last with e | ⟨s', hs, h1, h2⟩
      · exact .inl e
      · exact .inr ⟨s', List.mem_append.2 (.inl hs), h1, h2⟩
  · have hlt : p < plc s.id := (of_decide_eq_true ht).resolve_left h0
    have hlo := h.lo
    rw [if_neg h0, if_pos hlt]
    refine ⟨fun s' hs => ?_, .inr ⟨s, List.mem_append.2 (.inr (by simp)), h0, rfl⟩, hids, by omega⟩
    rcases List.mem_append.1 hs with hs | hs
    · rcases h.all s' hs with e | e
      · exact .inl e
      · exact .inr (by omega)
    · rw [List.mem_singleton.1 hs]; exact .inr (Int.le_refl _)
end Go.Proofs.YtelcoeeijkainaaDoor.Sec
