/-
  trammelref05.Right: may a function's type be put? Condition: its two slices lead to ints.
-/
import Derived.Test.YthhdbjpimjkekaaTypFunc
namespace Go.Proofs.Ythhdbjpimjkekaa.Typ
open Go.RowKit Leb

def good (xs : List Int) : Prop := xs.length ≤ 8 ∧ ∀ x ∈ xs, x = 127 ∨ x = 126
instance (xs : List Int) : Decidable (good xs) := by unfold good; infer_instance
def rightF (ps rs : List Int) : Bool := decide (good ps ∧ good rs)
def pick (ps rs : List Int) (j : Nat) : List Int := if j = 0 then ps else rs
/-- What Right has laid when its loop begins: the two slices in a list, and where each leads. -/
structure Two (W : World) (B : Nat) (ps rs : List Int) : Prop where
  cell : ∀ j, j < 2 → ∃ A c, W.cell? ⟨B, j, none⟩ = some (.slice A (pick ps rs j).length c) ∧ Ints W W.heap.size A (pick ps rs j)
theorem two_of (w : World) (A A' : Option Addr) (c c' : Nat) (ps rs : List Int) (t t' : TypeId) (h1 : Ints w w.heap.size A ps) (h2 : Ints w w.heap.size A' rs) :
    Two ((w.alloc (.cells #[.slice A ps.length c, .slice A' rs.length c'] t)).alloc (.cells #[.slice A ps.length c, .slice A' rs.length c'] t')) (w.heap.size + 1) ps rs ∧
      Below w.heap.size w ((w.alloc (.cells #[.slice A ps.length c, .slice A' rs.length c'] t)).alloc (.cells #[.slice A ps.length c, .slice A' rs.length c'] t')) := by
  have hb : Below w.heap.size w ((w.alloc (.cells #[.slice A ps.length c, .slice A' rs.length c'] t)).alloc (.cells #[.slice A ps.length c, .slice A' rs.length c'] t')) := ((Below.refl _ _).alloc (Nat.le_refl _) _).alloc (by simp) _
  have hh := (MapKept.heap_alloc (w.alloc (.cells #[.slice A ps.length c, .slice A' rs.length c'] t)) (.cells #[.slice A ps.length c, .slice A' rs.length c'] t')).1
  rw [show (w.alloc (.cells #[.slice A ps.length c, .slice A' rs.length c'] t)).heap.size = w.heap.size + 1 from by simp] at hh
  refine ⟨⟨fun j hj => ?_⟩, hb⟩
  match j, hj with
  | 0, _ => exact ⟨A, c, by simp only [World.cell?, hh]; rfl, (h1.below hb).more hb.size⟩
  | 1, _ => exact ⟨A', c', by simp only [World.cell?, hh]; rfl, (h2.below hb).more hb.size⟩
theorem right_false (ps rs : List Int) (j : Nat) (h : ¬ good (pick ps rs j)) : rightF ps rs = false := by
  unfold rightF
  apply decide_eq_false
  rintro ⟨h1, h2⟩
  unfold pick at h
  split at h
  · exact h h1
  · exact h h2
set_option maxHeartbeats 2000000 in
set_option maxRecDepth 100000 in
theorem right_any (A A' : Option Addr) (c c' : Nat) (ps rs : List Int) (w : World) (h1 : Ints w w.heap.size A ps) (h2 : Ints w w.heap.size A' rs) (l1 : ps.length ≤ 140737488355328) (l2 : rs.length ≤ 140737488355328) :
    Calls Try.prog 18 #[.agg #[.slice A ps.length c, .slice A' rs.length c']] w fun e w' => e = .returned (.bool (rightF ps rs)) ∧ Below w.heap.size w w' := by
  obtain ⟨ht, hb⟩ := two_of w A A' c c' ps rs 26 24 h1 h2
  have HT := Lib.hid ht
  have HB := Lib.hid hb
  have HL : Hid (∀ j, (pick ps rs j).length ≤ 140737488355328) := Lib.hid fun j => by unfold pick; split <;> assumption
  clear ht hb h1 h2 l1 l2
  go_enter Try.func18, Try.ntmps18
  go_wp2
  generalize (w.alloc _).alloc _ = W at *
  generalize hB : w.heap.size + 1 = B at *
  go_loop [12] (fun i => ∃ j : Nat, j ≤ 2 ∧ i = .int .i64 (j : Int) ∧ Hid (∀ k, k < j → good (pick ps rs k))) (fun i => 2 - (intOf i).toNat)
  case atStart => exact ⟨0, by omega, rfl, Lib.hid fun k hk => by omega⟩
  case round =>
    obtain ⟨j, hj, rfl, HG⟩ := hrel
    by_cases hlt : j < 2
    · have hlti : (j : Int) < 2 := by omega
      obtain ⟨A0, c0, hcell, hints⟩ := HT.out.cell j hlt
      have hl47 := HL.out j
      have HF := Lib.hid (right_false ps rs j)
      have HNX : Hid (good (pick ps rs j) → ∀ k, k < j + 1 → good (pick ps rs k)) := Lib.hid fun hg k hk => by
        by_cases hkj : k = j
        · subst hkj; exact hg
        · exact HG.out k (by omega)
      clear HG HT HL
      generalize pick ps rs j = xs at *
      by_cases h8 : xs.length ≤ 8
      · have h8i : ¬ (8 : Int) < (xs.length : Int) := by omega
        go_wp2
        go_loop [5] (fun i => ∃ k : Nat, k ≤ xs.length ∧ i = .int .i64 (k : Int) ∧ Hid (∀ x ∈ xs.take k, x = 127 ∨ x = 126)) (fun i => xs.length - (intOf i).toNat)
        case atStart => exact ⟨0, Nat.zero_le _, rfl, Lib.hid (by simp)⟩
        case round =>
          obtain ⟨k, hk, rfl, HK⟩ := hrel
          by_cases hkl : k < xs.length
          · have hkli : (k : Int) < (xs.length : Int) := by omega
            obtain ⟨b, off, rfl, _, hcs⟩ := hints (by omega)
            have hck := hcs k hkl
            have HN : Hid ((xs[k] = 127 ∨ xs[k] = 126) → ∀ x ∈ xs.take (k + 1), x = 127 ∨ x = 126) := Lib.hid fun h x hx => by
              rw [List.take_succ_eq_append_getElem hkl] at hx
              rcases List.mem_append.1 hx with hx | hx
              · exact HK.out x hx
              · have : x = xs[k] := by simpa using hx
                rw [this]; exact h
            have HM := Lib.hid (List.getElem_mem hkl)
            clear hcs hints HK
            generalize xs[k] = y at *
            by_cases hy7 : y = 127
            · subst hy7
              have HN2 := Lib.hid (HN.out (Or.inl rfl))
              go_wp2
              go_round
              case rel => exact ⟨k + 1, by omega, by go_num, HN2⟩
              case measure => simp [intOf]; omega
            · by_cases hy6 : y = 126
              · subst hy6
                have HN2 := Lib.hid (HN.out (Or.inr rfl))
                go_wp2
                go_round
                case rel => exact ⟨k + 1, by omega, by go_num, HN2⟩
                case measure => simp [intOf]; omega
              · have hy7b : (y != 127) = true := by simp [hy7]
                have hy6b : (y != 126) = true := by simp [hy6]
                have HE := Lib.hid (HF.out (fun h => by rcases h.2 y HM.out with h | h; exact hy7 h; exact hy6 h))
                clear hy7 hy6
                go_wp2
                go_ret
                rw [HE.out]
                exact ⟨rfl, HB.out⟩
          · have hkli : ¬ (k : Int) < (xs.length : Int) := by omega
            have HN2 := Lib.hid (HNX.out ⟨h8, fun x hx => HK.out x (by rw [List.take_of_length_le (by omega)]; exact hx)⟩)
            clear HK hints
            go_wp2
            go_round
            case rel => exact ⟨j + 1, by omega, by go_num, HN2⟩
            case measure => simp [intOf]; omega
      · have h8i : (8 : Int) < (xs.length : Int) := by omega
        have HE := Lib.hid (HF.out (fun h => h8 h.1))
        go_wp2
        go_ret
        rw [HE.out]
        exact ⟨rfl, HB.out⟩
    · obtain rfl : j = 2 := by omega
      have HE : Hid (rightF ps rs = true) := Lib.hid (by unfold rightF; exact decide_eq_true ⟨HG.out 0 (by omega), HG.out 1 (by omega)⟩)
      go_wp2
      go_ret
      rw [HE.out]
      exact ⟨rfl, HB.out⟩
end Go.Proofs.Ythhdbjpimjkekaa.Typ
