/-
  InsShort: trammelref06.Short: what it comes to. Condition: the slice leads to instructions.
-/
import Derived.Test.YtdipgokbfjbgfaaInsSame
import Derived.Test.YtdipgokbfjbgfaaTypAll
namespace Go.Proofs.Ytdipgokbfjbgfaa.Ins
open Go.RowKit Leb Typ

def sumL (xs : List Ins) : Nat := (xs.map fun x => x.l.length).sum
def lens (xs : List Ins) : Prop := xs.length ≤ 2100 ∧ ∀ x ∈ xs, x.l.length ≤ 100
instance (xs : List Ins) : Decidable (lens xs) := by unfold lens; infer_instance
/-- What Short answers. -/
def shortB (xs : List Ins) : Bool := decide (lens xs ∧ sumL xs ≤ 2000)
theorem shortB_lens (xs : List Ins) (h : shortB xs = true) : lens xs := (of_decide_eq_true h).1
theorem sumL_next (xs : List Ins) (j : Nat) (h : j < xs.length) : sumL (xs.take (j + 1)) = sumL (xs.take j) + xs[j].l.length := by
  unfold sumL
  rw [List.take_succ_eq_append_getElem h, List.map_append, List.sum_append]
  simp
set_option maxHeartbeats 1000000 in
set_option maxRecDepth 100000 in
theorem short_any (A : Option Addr) (xs : List Ins) (c B : Nat) (w : World) (hb : Inss w B A xs) :
    Calls Try.prog 9 #[.slice A xs.length c] w (Same1 w (.bool (shortB xs))) := by
  by_cases hbig : xs.length ≤ 2100
  · have hbi : ¬ (2100 : Int) < (xs.length : Int) := by omega
    go_enter Try.func9, Try.ntmps9
    go_wp2
    go_loop [3, 4] (fun n i => ∃ j s : Nat, j ≤ xs.length ∧ s ≤ 100 * j ∧ n = .int .i64 (s : Int) ∧ i = .int .i64 (j : Int) ∧ Hid (∀ x ∈ xs.take j, x.l.length ≤ 100) ∧ Hid (s = sumL (xs.take j))) (fun _ i => xs.length - (intOf i).toNat)
    case atStart => exact ⟨0, 0, Nat.zero_le _, by omega, rfl, rfl, Lib.hid (by simp), Lib.hid rfl⟩
    case round =>
      obtain ⟨j, s, hj, hs, rfl, rfl, HK, HSM⟩ := hrel
      by_cases hlt : j < xs.length
      · have hlti : (j : Int) < (xs.length : Int) := by omega
        obtain ⟨b, off, rfl, _, hcs⟩ := hb (by omega)
        obtain ⟨A1, c1, hf1, _, _, _⟩ := (hcs j hlt).five
        obtain ⟨_, _, _, _, u4⟩ := hf1
        have HN : Hid (xs[j].l.length ≤ 100 → ∀ x ∈ xs.take (j + 1), x.l.length ≤ 100) := Lib.hid fun h x hx => by
          rw [List.take_succ_eq_append_getElem hlt] at hx
          rcases List.mem_append.1 hx with hx | hx
          · exact HK.out x hx
          · have : x = xs[j] := by simpa using hx
            rw [this]; exact h
        have HM2 : Hid (s + xs[j].l.length = sumL (xs.take (j + 1))) := Lib.hid (by rw [sumL_next xs j hlt, HSM.out])
        have HNO : Hid (¬ xs[j].l.length ≤ 100 → shortB xs = false) := Lib.hid fun h => decide_eq_false fun h2 => h (h2.1.2 _ (List.getElem_mem hlt))
        clear hcs hb HK HSM
        generalize xs[j].l.length = n at *
        by_cases hn : n ≤ 100
        · have hni : ¬ (100 : Int) < (n : Int) := by omega
          have HN2 := Lib.hid (HN.out hn)
          go_wp2
          go_round
          case rel => exact ⟨j + 1, s + n, by omega, by omega, by go_num, by go_num, HN2, HM2⟩
          case measure => simp [intOf]; omega
        · have hni : (100 : Int) < (n : Int) := by omega
          have HE := Lib.hid (HNO.out hn)
          go_wp2
          go_ret
          rw [HE.out]
          exact ⟨rfl, rfl⟩
      · have hlti : ¬ (j : Int) < (xs.length : Int) := by omega
        have HE : Hid (shortB xs = decide ((s : Int) ≤ 2000)) := Lib.hid (by
          have h1 := HSM.out
          have h2 := HK.out
          rw [List.take_of_length_le (by omega)] at h1 h2
          unfold shortB
          apply decide_eq_decide.2
          rw [← h1]
          constructor
          · intro h; omega
          · intro h; exact ⟨⟨hbig, h2⟩, by omega⟩)
        clear HK hb HSM
        go_wp2
        go_ret
        rw [HE.out]
        exact ⟨rfl, rfl⟩
  · have hbi : (2100 : Int) < (xs.length : Int) := by omega
    have HE : Hid (shortB xs = false) := Lib.hid (decide_eq_false fun h => hbig h.1.1)
    clear hb hbig
    go_enter Try.func9, Try.ntmps9
    go_wp2
    go_ret
    rw [HE.out]
    exact ⟨rfl, rfl⟩
end Go.Proofs.Ytdipgokbfjbgfaa.Ins
