/-
  Sections in memory; trammelref07.place, may. Conditions as each lemma says.
-/
import Derived.Test.YtelcoeeijkainaaSecMath
import Derived.Test.YtelcoeeijkainaaLebOwn
import Derived.BigQuiet
namespace Go.Proofs.Ytelcoeeijkainaa.Sec
open Go.RowKit Leb

/-- The two cells of a section. -/
def SecAt (w : World) (B b off : Nat) (s : Sec) : Prop :=
  ∃ A c, w.cell? ⟨b, off, none⟩ = some (.int .i64 s.id) ∧ w.cell? ⟨b, off + 1, none⟩ = some (.slice A s.b.length c) ∧ Bytes w B A s.b ∧ s.b.length ≤ c ∧ (A = none → c = 0)
theorem SecAt.below {w w' : World} {B b off : Nat} {s : Sec} (h : SecAt w B b off s) (hb : Below B w w') (hlt : b < B) : SecAt w' B b off s := by
  obtain ⟨A, c, h1, h2, h3, h4, h5⟩ := h
  have C : ∀ p : Addr, p.block = b → w'.cell? p = w.cell? p := fun p hp => hb.cell (by omega)
  exact ⟨A, c, (C _ rfl).trans h1, (C _ rfl).trans h2, h3.below hb, h4, h5⟩
theorem SecAt.more {w : World} {B B' b off : Nat} {s : Sec} (h : SecAt w B b off s) (hB : B ≤ B') : SecAt w B' b off s := by
  obtain ⟨A, c, h1, h2, h3, h4, h5⟩ := h
  exact ⟨A, c, h1, h2, h3.more hB, h4, h5⟩
/-- Sections that a slice leads to. -/
def Secs (w : World) (B : Nat) (A : Option Addr) (l : List Sec) : Prop :=
  0 < l.length → ∃ b off, A = some ⟨b, off, none⟩ ∧ b < B ∧ ∀ (j : Nat) (h : j < l.length), SecAt w B b (off + j * 2) l[j]
theorem Secs.below {w w' : World} {B : Nat} {A : Option Addr} {l : List Sec} (h : Secs w B A l) (hb : Below B w w') : Secs w' B A l := by
  intro hl
  obtain ⟨b, off, e, hB, hc⟩ := h hl
  exact ⟨b, off, e, hB, fun j hj => (hc j hj).below hb hB⟩
theorem Secs.more {w : World} {B B' : Nat} {A : Option Addr} {l : List Sec} (h : Secs w B A l) (hB : B ≤ B') : Secs w B' A l := by
  intro hl
  obtain ⟨b, off, e, hb, hc⟩ := h hl
  exact ⟨b, off, e, by omega, fun j hj => (hc j hj).more hB⟩
theorem Secs.nil (w : World) (B : Nat) (A : Option Addr) : Secs w B A [] := fun h => absurd h (by simp)
theorem Secs.take {w : World} {B : Nat} {A : Option Addr} {l : List Sec} (h : Secs w B A l) (k : Nat) : Secs w B A (l.take k) := by
  intro hl
  obtain ⟨b, off, e, hB, hc⟩ := h (by simp at hl; omega)
  refine ⟨b, off, e, hB, fun j hj => ?_⟩
  have := hc j (by simp at hj; omega)
  rw [List.getElem_take]
  exact this
/-- A function that leaves the world alone. -/
def Still (w : World) (v : Value) (e : Ending) (w' : World) : Prop := e = .returned v ∧ w = w'
theorem place_12 (w : World) : Calls Try.prog 26 #[.int .i64 12] w (Still w (.int .i64 95)) := by
  go_enter Try.func26, Try.ntmps26
  go_wp2
  go_ret
  exact ⟨rfl, rfl⟩
theorem place_other (id : Int) (w : World) (h : (id == 12) = false) : Calls Try.prog 26 #[.int .i64 id] w (Still w (.int .i64 (wrap64 (id * 10)))) := by
  go_enter Try.func26, Try.ntmps26
  go_wp2
  go_ret
  exact ⟨rfl, rfl⟩
theorem place_any (id : Int) (w : World) (h0 : 0 ≤ id) (h12 : id ≤ 12) : Calls Try.prog 26 #[.int .i64 id] w (Still w (.int .i64 (placeOf id))) := by
  by_cases h : id = 12
  · subst h; exact place_12 w
  · have e : placeOf id = id * 10 := by unfold placeOf; rw [if_neg h]
    have hw : wrap64 (id * 10) = id * 10 := IntWalk.wrap64_in _ (by omega)
    rw [e, ← hw]
    exact place_other id w (by simp [h])
theorem may_next {l : List Sec} {id : Int} (j : Nat) (hj : j < l.length) : may (l.take (j + 1)) id = (may (l.take j) id && decide (id = 0 ∨ l[j].id = 0 ∨ placeOf l[j].id < placeOf id)) := by
  apply Bool.eq_iff_iff.2
  rw [Bool.and_eq_true]
  unfold may
  rw [decide_eq_true_iff, decide_eq_true_iff, decide_eq_true_iff, List.take_succ_eq_append_getElem hj]
  constructor
  · rintro ⟨h1, h2, h3⟩
    exact ⟨⟨h1, h2, fun s hs => h3 s (List.mem_append.2 (.inl hs))⟩, h3 _ (List.mem_append.2 (.inr (List.mem_singleton.2 rfl)))⟩
  · rintro ⟨⟨h1, h2, h3⟩, h4⟩
    refine ⟨h1, h2, fun s hs => ?_⟩
    rcases List.mem_append.1 hs with h | h
    · exact h3 s h
    · rw [List.mem_singleton.1 h]; exact h4
theorem may_fail {l : List Sec} {id : Int} (j : Nat) (hj : j < l.length) (h : ¬ (id = 0 ∨ l[j].id = 0 ∨ placeOf l[j].id < placeOf id)) : may l id = false :=
  decide_eq_false fun h2 => h (h2.2.2 _ (List.getElem_mem hj))
set_option maxHeartbeats 2000000 in
set_option maxRecDepth 100000 in
theorem rmay_any (A : Option Addr) (l : List Sec) (c B : Nat) (id : Int) (w : World) (hs : Secs w B A l) (hl : l.length ≤ 100000) (hid : ∀ s ∈ l, 0 ≤ s.id ∧ s.id ≤ 12) : Calls Try.prog 18 #[.slice A l.length c, .int .i64 id] w (Still w (.bool (may l id))) := by
  by_cases h0 : id < 0
  · rw [show may l id = false from decide_eq_false (by omega)]
    clear hs hl hid
    go_enter Try.func18, Try.ntmps18
    go_wp2
    go_ret
    exact ⟨rfl, rfl⟩
  by_cases h12 : 12 < id
  · rw [show may l id = false from decide_eq_false (by omega)]
    clear hs hl hid
    go_enter Try.func18, Try.ntmps18
    go_wp2
    go_ret
    exact ⟨rfl, rfl⟩
  have hr : 0 ≤ id ∧ id ≤ 12 := by omega
  have HS := Lib.hid hs
  have HID := Lib.hid hid
  have hli : (l.length : Int) ≤ 100000 := by omega
  have HP := Lib.hid (place_any id w hr.1 hr.2)
  clear hs hid hl
  go_enter Try.func18, Try.ntmps18
  go_wp2_with fail
  go_loopw [5] (fun x wr => ∃ j : Nat, j ≤ l.length ∧ x = .int .i64 (j : Int) ∧ wr = w ∧ Hid (may (l.take j) id = true)) (fun i _ => l.length - (intOf i).toNat)
  case atStart => exact ⟨0, Nat.zero_le _, by go_num, rfl, Lib.hid (decide_eq_true ⟨hr.1, hr.2, by simp⟩)⟩
  case round =>
    obtain ⟨j, hj, rfl, rfl, HJ⟩ := hrel
    by_cases hjl : j < l.length
    · have hji : (j : Int) < (l.length : Int) := by omega
      obtain ⟨b, off, rfl, hb, hc⟩ := HS.out (by omega)
      obtain ⟨SA, sc, q0, _, _, _, _⟩ := hc j hjl
      have hsr := HID.out _ (List.getElem_mem hjl)
      have HPS := Lib.hid (place_any l[j].id wr hsr.1 hsr.2)
      have HNX : Hid ((id = 0 ∨ l[j].id = 0 ∨ placeOf l[j].id < placeOf id) → may (l.take (j + 1)) id = true) := Lib.hid fun h => by rw [may_next j hjl, HJ.out, decide_eq_true h]; rfl
      have HBD : Hid (¬ (id = 0 ∨ l[j].id = 0 ∨ placeOf l[j].id < placeOf id) → may l id = false) := Lib.hid fun h => may_fail j hjl h
      clear hc hsr HJ
      generalize l[j].id = sid at *
      generalize placeOf sid = pl at *
      generalize placeOf id = pi at *
      by_cases hz : id = 0
      · have HJ2 := Lib.hid (HNX.out (.inl hz))
        subst hz
        clear HNX HBD HPS
        go_wp2
        go_roundw
        case rel => exact ⟨j + 1, by omega, by go_num, by trivial, HJ2⟩
        case measure => simp [intOf]; omega
      · have hzb : (id != 0) = true := by simp [hz]
        by_cases hsz : sid = 0
        · have HJ2 := Lib.hid (HNX.out (.inr (.inl hsz)))
          subst hsz
          clear HNX HBD HPS
          go_wp2
          go_roundw
          case rel => exact ⟨j + 1, by omega, by go_num, by trivial, HJ2⟩
          case measure => simp [intOf]; omega
        · have hszb : (sid != 0) = true := by simp [hsz]
          by_cases hlt : pl < pi
          · have HJ2 := Lib.hid (HNX.out (.inr (.inr hlt)))
            have hge : ¬ pi ≤ pl := by omega
            clear HNX HBD
            go_wp2_with fail
            refine HPS.out.mono ?_
            rintro e w1 ⟨rfl, rfl⟩
            go_wp2_with fail
            refine HP.out.mono ?_
            rintro e w1 ⟨rfl, rfl⟩
            go_wp2
            go_roundw
            case rel => exact ⟨j + 1, by omega, by go_num, by trivial, HJ2⟩
            case measure => simp [intOf]; omega
          · have HE := Lib.hid (HBD.out (by omega))
            have hge : pi ≤ pl := by omega
            clear HNX HBD
            go_wp2_with fail
            refine HPS.out.mono ?_
            rintro e w1 ⟨rfl, rfl⟩
            go_wp2_with fail
            refine HP.out.mono ?_
            rintro e w1 ⟨rfl, rfl⟩
            go_wp2
            go_ret
            rw [HE.out]
            exact ⟨rfl, rfl⟩
    · obtain rfl : j = l.length := by omega
      have hji : ¬ (l.length : Int) < (l.length : Int) := by omega
      have HE : Hid (may l id = true) := Lib.hid (by have := HJ.out; rwa [List.take_length] at this)
      clear HJ HS HID HP
      go_wp2
      go_ret
      rw [HE.out]
      exact ⟨rfl, rfl⟩
end Go.Proofs.Ytelcoeeijkainaa.Sec
