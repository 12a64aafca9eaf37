/-
  trammelref07.Short, Same: what each comes to. Conditions: slices lead to sections.
-/
import Derived.Test.YtelcoeeijkainaaSecMem
import Derived.Test.YtelcoeeijkainaaLebSame
namespace Go.Proofs.Ytelcoeeijkainaa.Sec
open Go.RowKit Leb

def sumB (xs : List Sec) : Nat := (xs.map fun x => x.b.length).sum
def lensB (xs : List Sec) : Prop := xs.length ≤ 40 ∧ ∀ x ∈ xs, x.b.length ≤ 70000
instance (xs : List Sec) : Decidable (lensB xs) := by unfold lensB; infer_instance
/-- What Short answers. -/
def shortS (xs : List Sec) : Bool := decide (lensB xs ∧ sumB xs ≤ 80000)
theorem shortS_lensB (xs : List Sec) (h : shortS xs = true) : lensB xs := (of_decide_eq_true h).1
theorem sumB_next (xs : List Sec) (j : Nat) (h : j < xs.length) : sumB (xs.take (j + 1)) = sumB (xs.take j) + xs[j].b.length := by
  unfold sumB
  rw [List.take_succ_eq_append_getElem h, List.map_append, List.sum_append]
  simp
set_option maxHeartbeats 1000000 in
set_option maxRecDepth 100000 in
theorem rshort_any (A : Option Addr) (xs : List Sec) (c B : Nat) (w : World) (hb : Secs w B A xs) :
    Calls Try.prog 12 #[.slice A xs.length c] w (Still w (.bool (shortS xs))) := by
  by_cases hbig : xs.length ≤ 40
  · have hbi : ¬ (40 : Int) < (xs.length : Int) := by omega
    go_enter Try.func12, Try.ntmps12
    go_wp2
    go_loop [3, 4] (fun n i => ∃ j s : Nat, j ≤ xs.length ∧ s ≤ 70000 * j ∧ n = .int .i64 (s : Int) ∧ i = .int .i64 (j : Int) ∧ Hid (∀ x ∈ xs.take j, x.b.length ≤ 70000) ∧ Hid (s = sumB (xs.take j))) (fun _ i => xs.length - (intOf i).toNat)
    case atStart => exact ⟨0, 0, Nat.zero_le _, by omega, rfl, rfl, Lib.hid (by simp), Lib.hid rfl⟩
    case round =>
      obtain ⟨j, s, hj, hs, rfl, rfl, HK, HSM⟩ := hrel
      by_cases hlt : j < xs.length
      · have hlti : (j : Int) < (xs.length : Int) := by omega
        obtain ⟨b, off, rfl, _, hcs⟩ := hb (by omega)
        obtain ⟨A1, c1, _, u4, _, _, _⟩ := hcs j hlt
        have HN : Hid (xs[j].b.length ≤ 70000 → ∀ x ∈ xs.take (j + 1), x.b.length ≤ 70000) := Lib.hid fun h x hx => by
          rw [List.take_succ_eq_append_getElem hlt] at hx
          rcases List.mem_append.1 hx with hx | hx
          · exact HK.out x hx
          · have : x = xs[j] := by simpa using hx
            rw [this]; exact h
        have HM2 : Hid (s + xs[j].b.length = sumB (xs.take (j + 1))) := Lib.hid (by rw [sumB_next xs j hlt, HSM.out])
        have HNO : Hid (¬ xs[j].b.length ≤ 70000 → shortS xs = false) := Lib.hid fun h => decide_eq_false fun h2 => h (h2.1.2 _ (List.getElem_mem hlt))
        clear hcs hb HK HSM
        generalize xs[j].b.length = n at *
        by_cases hn : n ≤ 70000
        · have hni : ¬ (70000 : Int) < (n : Int) := by omega
          have HN2 := Lib.hid (HN.out hn)
          go_wp2
          go_round
          case rel => exact ⟨j + 1, s + n, by omega, by omega, by go_num, by go_num, HN2, HM2⟩
          case measure => simp [intOf]; omega
        · have hni : (70000 : Int) < (n : Int) := by omega
          have HE := Lib.hid (HNO.out hn)
          go_wp2
          go_ret
          rw [HE.out]
          exact ⟨rfl, rfl⟩
      · have hlti : ¬ (j : Int) < (xs.length : Int) := by omega
        have HE : Hid (shortS xs = decide ((s : Int) ≤ 80000)) := Lib.hid (by
          have h1 := HSM.out
          have h2 := HK.out
          rw [List.take_of_length_le (by omega)] at h1 h2
          unfold shortS
          apply decide_eq_decide.2
          rw [← h1]
          constructor
          · intro h; omega
          · intro h; exact ⟨⟨hbig, h2⟩, by omega⟩)
        clear HK hb HSM
        go_wp2
        go_ret
        rw [HE.out]
        exact ⟨rfl, rfl⟩
  · have hbi : (40 : Int) < (xs.length : Int) := by omega
    have HE : Hid (shortS xs = false) := Lib.hid (decide_eq_false fun h => hbig h.1.1)
    clear hb hbig
    go_enter Try.func12, Try.ntmps12
    go_wp2
    go_ret
    rw [HE.out]
    exact ⟨rfl, rfl⟩
set_option maxHeartbeats 1000000 in
theorem rsame_len (A A' : Option Addr) (n n' c c' : Nat) (w : World) (h : ((n : Int) != (n' : Int)) = true) : Calls Try.prog 10 #[.slice A n c, .slice A' n' c'] w fun e w' => e = .returned (.bool false) ∧ ∃ m, w' = w.drewN m := by
  go_enter Try.func10, Try.ntmps10
  go_wp2
  go_ret
  exact ⟨rfl, 0, rfl⟩
def QuietB (w : World) (b : Bool) (e : Ending) (w' : World) : Prop := e = .returned (.bool b) ∧ ∃ m, w' = w.drewN m
set_option maxHeartbeats 4000000 in
set_option maxRecDepth 100000 in
theorem rsame_run (A A' : Option Addr) (l l' : List Sec) (c c' : Nat) (w : World) (hb : Secs w w.heap.size A l) (hb' : Secs w w.heap.size A' l') (hll : l.length = l'.length) (hlen : (l.length : Int) ≤ 100000) (hs : ∀ s ∈ l, s.b.length ≤ 1000000) (hs' : ∀ s ∈ l', s.b.length ≤ 1000000) :
    Calls Try.prog 10 #[.slice A l.length c, .slice A' l'.length c'] w (QuietB w (decide (l = l'))) := by
  have hne : ((l.length : Int) != (l'.length : Int)) = false := by simp; omega
  have HLL := Lib.hid hll
  have HB := Lib.hid hb
  have HB' := Lib.hid hb'
  have HS := Lib.hid hs
  have HS' := Lib.hid hs'
  clear hb hb' hll hs hs'
  go_enter Try.func10, Try.ntmps10
  go_wp2_with fail
  go_loopw [5] (fun x wr => ∃ (j q : Nat), j ≤ l.length ∧ x = .int .i64 (j : Int) ∧ wr = w.drewN q ∧ Hid (l.take j = l'.take j)) (fun i _ => l.length - (intOf i).toNat)
  case atStart => exact ⟨0, 0, Nat.zero_le _, by go_num, rfl, Lib.hid (by simp)⟩
  case round =>
    obtain ⟨j, q, hj, rfl, rfl, HJ⟩ := hrel
    by_cases hjl : j < l.length
    · have hji : (j : Int) < (l.length : Int) := by omega
      have hjl' : j < l'.length := by have := HLL.out; omega
      have hji' : (j : Int) < (l'.length : Int) := by omega
      obtain ⟨b, off, rfl, hblk, hc⟩ := HB.out (by omega)
      obtain ⟨b', off', rfl, hblk', hc'⟩ := HB'.out (by omega)
      obtain ⟨SA, sc, p0, p1, p2, _, _⟩ := hc j hjl
      obtain ⟨SA', sc', p0', p1', p2', _, _⟩ := hc' j hjl'
      have hbl := HS.out _ (List.getElem_mem hjl)
      have hbl' := HS'.out _ (List.getElem_mem hjl')
      have HW : Hid (∃ m, w.drewN q = w.drewN m) := Lib.hid ⟨q, rfl⟩
      have q0 : (w.drewN q).cell? ⟨b, off + j * 2, none⟩ = some (.int .i64 l[j].id) := p0
      have q1 : (w.drewN q).cell? ⟨b, off + j * 2 + 1, none⟩ = some (.slice SA l[j].b.length sc) := p1
      have q0' : (w.drewN q).cell? ⟨b', off' + j * 2, none⟩ = some (.int .i64 l'[j].id) := p0'
      have q1' : (w.drewN q).cell? ⟨b', off' + j * 2 + 1, none⟩ = some (.slice SA' l'[j].b.length sc') := p1'
      have p3 : Bytes (w.drewN q) w.heap.size SA l[j].b := p2
      have p3' : Bytes (w.drewN q) w.heap.size SA' l'[j].b := p2'
      have HSM := Lib.hid (fun m => same_is SA SA' l[j].b l'[j].b sc sc' w.heap.size w.heap.size ((w.drewN q).drewN m) p3 p3' (by omega) (by omega))
      have HNX : Hid (l[j].id = l'[j].id → l[j].b = l'[j].b → l.take (j + 1) = l'.take (j + 1)) := Lib.hid fun h1 h2 => by
        rw [List.take_succ_eq_append_getElem hjl, List.take_succ_eq_append_getElem hjl', HJ.out]
        congr 2
        cases hx : l[j] with
        | mk a b => cases hy : l'[j] with
          | mk a' b' => rw [hx, hy] at h1 h2; simp only at h1 h2; rw [h1, h2]
      have HBD : Hid (¬ (l[j].id = l'[j].id ∧ l[j].b = l'[j].b) → decide (l = l') = false) := Lib.hid fun h => decide_eq_false fun e => by
        subst e
        exact h ⟨rfl, rfl⟩
      have HWK : Hid (∀ m, ∃ k, (w.drewN q).drewN m = w.drewN k) := Lib.hid fun m => ⟨_, World.drewN_drewN _ _ _⟩
      clear p0 p1 p2 p0' p1' p2' p3 p3' hc hc' HJ hbl hbl'
      generalize l[j].id = x at *
      generalize l'[j].id = x' at *
      generalize l[j].b = y at *
      generalize l'[j].b = y' at *
      generalize y.length = ny at *
      generalize y'.length = ny' at *
      generalize w.drewN q = W at *
      by_cases hxx : x = x'
      · subst hxx
        have hxb : (x != x) = false := by simp
        by_cases hyy : y = y'
        · have HJ2 := Lib.hid (HNX.out rfl hyy)
          have HSM1 : Hid (∀ m, Calls Try.prog 15 #[.slice SA ny sc, .slice SA' ny' sc'] (W.drewN m) (QuietB (W.drewN m) true)) := Lib.hid fun m => by have := HSM.out m; rwa [decide_eq_true hyy] at this
          clear HNX HBD HSM hyy
          go_wp2_with fail
          go_quiet ((go_at_call 15; exact Calls.quiet_of (HSM1.out _)))
          go_wp2
          go_roundw
          case rel =>
            obtain ⟨k, hk⟩ := HWK.out nq
            exact ⟨j + 1, k, by omega, by go_num, hk, HJ2⟩
          case measure => simp [intOf]; omega
        · have HE := Lib.hid (HBD.out (fun h => hyy h.2))
          have HSM1 : Hid (∀ m, Calls Try.prog 15 #[.slice SA ny sc, .slice SA' ny' sc'] (W.drewN m) (QuietB (W.drewN m) false)) := Lib.hid fun m => by have := HSM.out m; rwa [decide_eq_false hyy] at this
          clear HNX HBD HSM hyy
          go_wp2_with fail
          go_quiet ((go_at_call 15; exact Calls.quiet_of (HSM1.out _)))
          go_wp2
          go_ret
          rw [HE.out]
          obtain ⟨k, hk⟩ := HWK.out nq
          exact ⟨rfl, k, hk⟩
      · have HE := Lib.hid (HBD.out (fun h => hxx h.1))
        have hxb : (x != x') = true := by simp [hxx]
        clear HNX HBD HSM
        go_wp2_with fail
        go_quiet (fail)
        go_wp2
        go_ret
        rw [HE.out]
        obtain ⟨k, hk⟩ := HWK.out nq
        exact ⟨rfl, k, hk⟩
    · obtain rfl : j = l.length := by omega
      have hji : ¬ (l.length : Int) < (l.length : Int) := by omega
      have HE : Hid (decide (l = l') = true) := Lib.hid (decide_eq_true (by
        have := HJ.out
        rwa [List.take_length, HLL.out, List.take_length] at this))
      clear HJ HB HB' HS HS'
      go_wp2
      go_ret
      rw [HE.out]
      exact ⟨rfl, _, rfl⟩
theorem rsec_same (A A' : Option Addr) (l l' : List Sec) (c c' : Nat) (w : World) (hb : Secs w w.heap.size A l) (hb' : Secs w w.heap.size A' l') (hlen : l.length ≤ 100000) (hs : ∀ s ∈ l, s.b.length ≤ 1000000) (hs' : ∀ s ∈ l', s.b.length ≤ 1000000) :
    Calls Try.prog 10 #[.slice A l.length c, .slice A' l'.length c'] w (QuietB w (decide (l = l'))) := by
  by_cases hll : l.length = l'.length
  · exact rsame_run A A' l l' c c' w hb hb' hll (by omega) hs hs'
  · rw [decide_eq_false (fun h => hll (by rw [h]))]
    exact rsame_len A A' _ _ c c' w (by simp; omega)
end Go.Proofs.Ytelcoeeijkainaa.Sec
