/-
  StoVals: Slices of uint64s and of bools in memory: what they lead to; the given SameNumbers and SameBools. Conditions as each lemma says.
-/
import Derived.Test.YtdcolpmmojiffaaQTyp
namespace Go.Proofs.Ytdcolpmmojiffaa.Sto
open Go.RowKit Leb Typ

def Nums (w : World) (B : Nat) (A : Option Addr) (l : List Nat) : Prop :=
  0 < l.length → ∃ b off, A = some ⟨b, off, none⟩ ∧ b < B ∧ ∀ (j : Nat) (h : j < l.length), w.cell? ⟨b, off + j, none⟩ = some (.int .u64 (l[j] : Int))
def Bools (w : World) (B : Nat) (A : Option Addr) (l : List Bool) : Prop :=
  0 < l.length → ∃ b off, A = some ⟨b, off, none⟩ ∧ b < B ∧ ∀ (j : Nat) (h : j < l.length), w.cell? ⟨b, off + j, none⟩ = some (.bool l[j])
theorem Nums.below {w w' : World} {B : Nat} {A : Option Addr} {l : List Nat} (h : Nums w B A l) (hb : Below B w w') : Nums w' B A l := by
  intro hl
  obtain ⟨b, off, e, hB, hc⟩ := h hl
  exact ⟨b, off, e, hB, fun j hj => (hb.cell hB).trans (hc j hj)⟩
theorem Bools.below {w w' : World} {B : Nat} {A : Option Addr} {l : List Bool} (h : Bools w B A l) (hb : Below B w w') : Bools w' B A l := by
  intro hl
  obtain ⟨b, off, e, hB, hc⟩ := h hl
  exact ⟨b, off, e, hB, fun j hj => (hb.cell hB).trans (hc j hj)⟩
theorem take_nextG {α : Type} {l l' : List α} {k : Nat} (h : k < l.length) (h' : k < l'.length) (ht : l.take k = l'.take k) (he : l[k] = l'[k]) : l.take (k + 1) = l'.take (k + 1) := by
  rw [List.take_succ_eq_append_getElem h, List.take_succ_eq_append_getElem h', ht, he]
set_option maxHeartbeats 1000000 in
theorem sameNums_any (A A' : Option Addr) (l l' : List Nat) (c c' B B' : Nat) (w : World) (hb : Nums w B A l) (hb' : Nums w B' A' l') (hlen : l.length ≤ 140737488355328) (hlen' : l'.length ≤ 140737488355328) :
    Calls Try.prog 21 #[.slice A l.length c, .slice A' l'.length c'] w fun e w' => e = .returned (.bool (decide (l = l'))) ∧ ∃ m, w' = w.drewN m := by
  by_cases hll : l.length = l'.length
  · have hne : ((l.length : Int) != (l'.length : Int)) = false := by simp; omega
    have HLL := Lib.hid hll
    clear hll
    go_enter Try.func21, Try.ntmps21
    go_wp2
    go_loopw [5] (fun i wr => ∃ (k m : Nat), k ≤ l.length ∧ i = .int .i64 (k : Int) ∧ Hid (l.take k = l'.take k) ∧ wr = w.drewN m) (fun i _ => l.length - (intOf i).toNat)
    case atStart => exact ⟨0, 0, Nat.zero_le _, rfl, Lib.hid rfl, rfl⟩
    case round =>
      obtain ⟨k, m, hk, rfl, ht, rfl⟩ := hrel
      by_cases hl : k < l.length
      · have hl' : k < l'.length := by have := HLL.out; omega
        obtain ⟨b, off, rfl, _, hcs⟩ := hb (by omega)
        obtain ⟨b', off', rfl, _, hcs'⟩ := hb' (by omega)
        have hc1 := hcs k hl
        have hc2 := hcs' k hl'
        have hli : (k : Int) < (l.length : Int) := by omega
        have hli' : (k : Int) < (l'.length : Int) := by omega
        obtain ⟨x, hx⟩ : ∃ x, x = l[k] := ⟨_, rfl⟩
        obtain ⟨y, hy⟩ : ∃ y, y = l'[k] := ⟨_, rfl⟩
        rw [← hx] at hc1
        rw [← hy] at hc2
        have HX := Lib.hid hx
        have HY := Lib.hid hy
        clear hcs hcs' hb hb' hx hy
        by_cases hxy : x = y
        · subst hxy
          go_wp2
          go_quiet (fail)
          go_wp2
          go_roundw
          case rel => exact ⟨k + 1, _, by omega, by go_num, Lib.hid (take_nextG hl hl' ht.out (by rw [← HX.out, ← HY.out])), rfl⟩
          case measure => simp [intOf]; omega
        · have hxb : ((x : Int) != (y : Int)) = true := by simp; omega
          have HXY := Lib.hid hxy
          clear hxy
          go_wp2
          go_quiet (fail)
          go_wp2
          go_ret
          refine ⟨ret_bool (decide_eq_false fun h => HXY.out ?_).symm, _, World.drewN_drewN _ _ _⟩
          subst h
          rw [HX.out, HY.out]
      · have hli : ¬ (k : Int) < (l.length : Int) := by omega
        clear hb hb'
        go_wp2
        go_ret
        refine ⟨ret_bool (decide_eq_true ?_).symm, m, rfl⟩
        have h1 := ht.out
        have h2 := HLL.out
        rw [List.take_of_length_le (by omega), List.take_of_length_le (by omega)] at h1
        exact h1
  · have hne : ((l.length : Int) != (l'.length : Int)) = true := by simp; omega
    have HLL := Lib.hid hll
    clear hll
    go_enter Try.func21, Try.ntmps21
    go_wp2
    go_ret
    exact ⟨ret_bool (decide_eq_false fun h => HLL.out (by rw [h])).symm, 0, rfl⟩
set_option maxHeartbeats 1000000 in
theorem sameBools_any (A A' : Option Addr) (l l' : List Bool) (c c' B B' : Nat) (w : World) (hb : Bools w B A l) (hb' : Bools w B' A' l') (hlen : l.length ≤ 140737488355328) (hlen' : l'.length ≤ 140737488355328) :
    Calls Try.prog 22 #[.slice A l.length c, .slice A' l'.length c'] w fun e w' => e = .returned (.bool (decide (l = l'))) ∧ ∃ m, w' = w.drewN m := by
  by_cases hll : l.length = l'.length
  · have hne : ((l.length : Int) != (l'.length : Int)) = false := by simp; omega
    have HLL := Lib.hid hll
    clear hll
    go_enter Try.func22, Try.ntmps22
    go_wp2
    go_loopw [5] (fun i wr => ∃ (k m : Nat), k ≤ l.length ∧ i = .int .i64 (k : Int) ∧ Hid (l.take k = l'.take k) ∧ wr = w.drewN m) (fun i _ => l.length - (intOf i).toNat)
    case atStart => exact ⟨0, 0, Nat.zero_le _, rfl, Lib.hid rfl, rfl⟩
    case round =>
      obtain ⟨k, m, hk, rfl, ht, rfl⟩ := hrel
      by_cases hl : k < l.length
      · have hl' : k < l'.length := by have := HLL.out; omega
        obtain ⟨b, off, rfl, _, hcs⟩ := hb (by omega)
        obtain ⟨b', off', rfl, _, hcs'⟩ := hb' (by omega)
        have hc1 := hcs k hl
        have hc2 := hcs' k hl'
        have hli : (k : Int) < (l.length : Int) := by omega
        have hli' : (k : Int) < (l'.length : Int) := by omega
        obtain ⟨x, hx⟩ : ∃ x, x = l[k] := ⟨_, rfl⟩
        obtain ⟨y, hy⟩ : ∃ y, y = l'[k] := ⟨_, rfl⟩
        rw [← hx] at hc1
        rw [← hy] at hc2
        have HX := Lib.hid hx
        have HY := Lib.hid hy
        clear hcs hcs' hb hb' hx hy
        by_cases hxy : x = y
        · subst hxy
          go_wp2
          go_quiet (fail)
          go_wp2
          go_roundw
          case rel => exact ⟨k + 1, _, by omega, by go_num, Lib.hid (take_nextG hl hl' ht.out (by rw [← HX.out, ← HY.out])), rfl⟩
          case measure => simp [intOf]; omega
        · have HXY : Hid (l = l' → False) := Lib.hid fun h => hxy (by
            subst h
            exact HX.out.trans HY.out.symm)
          clear HX HY
          cases x <;> cases y
          · exact absurd rfl hxy
          · clear hxy
            go_wp2
            go_quiet (fail)
            go_wp2
            go_ret
            exact ⟨ret_bool (decide_eq_false fun h => HXY.out h).symm, _, World.drewN_drewN _ _ _⟩
          · clear hxy
            go_wp2
            go_quiet (fail)
            go_wp2
            go_ret
            exact ⟨ret_bool (decide_eq_false fun h => HXY.out h).symm, _, World.drewN_drewN _ _ _⟩
          · exact absurd rfl hxy
      · have hli : ¬ (k : Int) < (l.length : Int) := by omega
        clear hb hb'
        go_wp2
        go_ret
        refine ⟨ret_bool (decide_eq_true ?_).symm, m, rfl⟩
        have h1 := ht.out
        have h2 := HLL.out
        rw [List.take_of_length_le (by omega), List.take_of_length_le (by omega)] at h1
        exact h1
  · have hne : ((l.length : Int) != (l'.length : Int)) = true := by simp; omega
    have HLL := Lib.hid hll
    clear hll
    go_enter Try.func22, Try.ntmps22
    go_wp2
    go_ret
    exact ⟨ret_bool (decide_eq_false fun h => HLL.out (by rw [h])).symm, 0, rfl⟩
end Go.Proofs.Ytdcolpmmojiffaa.Sto
