/-
  trammellaw07.SectSplits returns true. Condition: the slice leads to bytes.
-/
import Derived.Test.YtelcoeeijkainaaSecAwake
import Derived.Test.YtelcoeeijkainaaSecTold
import Derived.Test.YtelcoeeijkainaaSecShort
import Derived.Test.YtelcoeeijkainaaSecCut
import Derived.Deep.DeepCutAuto
namespace Go.Proofs.Ytelcoeeijkainaa.Sec
open Go.RowKit Leb

theorem splitF_len (bs : List Nat) (f : Nat) (out : List Sec) (p : Nat) (ho : out.length ≤ p) (hp : p ≤ bs.length) (hb : ∀ s ∈ out, s.b.length ≤ bs.length) : (splitF bs f out p).1.length ≤ bs.length ∧ ∀ s ∈ (splitF bs f out p).1, s.b.length ≤ bs.length := by
  induction f generalizing out p with
  | zero => exact ⟨by simp only [splitF]; omega, by simpa only [splitF] using hb⟩
  | succ f ih =>
    rcases splitF_cases bs f p out with ⟨_, h⟩ | ⟨e, _, h⟩ | ⟨hp, hm, u, s, hu, hl, hq⟩
    · rw [h]; exact ⟨by simp only; omega, hb⟩
    · rw [h]; exact ⟨by simp only; omega, hb⟩
    · rw [splitF_step bs f p u s out hp hm hu hl]
      have hi := uRes_in hu
      refine ih _ _ (by rw [List.length_append]; simp; omega) (by omega) (fun s' hs => ?_)
      rcases List.mem_append.1 hs with hs | hs
      · exact hb s' hs
      · have : s' = ⟨(bs.getD p 0 : Nat), (bs.drop (p + 1 + s)).take u⟩ := by simpa using hs
        rw [this]
        simp only [List.length_take, List.length_drop]
        omega
theorem splitRes_len (bs : List Nat) : (splitRes bs).1.length ≤ 65536 ∧ ∀ s ∈ (splitRes bs).1, s.b.length ≤ 65536 := by
  unfold splitRes
  by_cases h1 : 65536 < bs.length
  · rw [if_pos h1]; simp
  rw [if_neg h1]
  by_cases h2 : headErr bs ≠ 0
  · rw [if_pos h2]; simp
  rw [if_neg h2]
  have h8 : 8 ≤ bs.length := by
    unfold headErr at h2
    split at h2
    · split at h2
      · simp at h2
      · omega
    · simp at h2
  obtain ⟨h3, h4⟩ := splitF_len bs (bs.length + 1) [] 8 (by simp) h8 (by simp)
  exact ⟨by omega, fun s hs => by have := h4 s hs; omega⟩
set_option maxHeartbeats 1000000 in
set_option maxRecDepth 100000 in
theorem splits_any (A : Option Addr) (len c m : Nat) (w : World) (l : List Nat) (hm : min (len : Int) 70000 = (m : Int)) (hmc : m ≤ c) (hl : l.length = m) (hs : Slc w w.heap.size A c l) :
    Calls Try.prog 3 #[.slice A len c] w fun e w' => e = .returned (.bool true) ∧ Below w.heap.size w w' := by
  have HA := Lib.hid (awake_any w)
  have hO := fun W (hW : Below w.heap.size w W) => osplit_any A l c W ((hs.below hW).more hW.size)
  have hR := fun W (hW : Below w.heap.size w W) => rsplit_any A l c W ((hs.below hW).more hW.size)
  obtain ⟨hL1, hL2⟩ := splitRes_len l
  rw [hl] at hO hR
  generalize hg : splitRes l = R at *
  obtain ⟨ss, k⟩ := R
  simp only at hL1 hL2
  have HO := Lib.hid hO
  have HR := Lib.hid hR
  obtain ⟨n, hn⟩ : ∃ n, ss.length = n := ⟨_, rfl⟩
  have HT : Hid (∀ W A1 c1, Sli W W.heap.size A1 c1 ss → Calls Try.prog 11 #[.slice A1 n c1] W (ToldIs W ss n)) := Lib.hid fun W A1 c1 h => by have := told_any A1 ss c1 W h (by omega); rwa [hn] at this
  have HSM : Hid (∀ W A1 c1 A2 c2, Sli W W.heap.size A1 c1 ss → Sli W W.heap.size A2 c2 ss → Calls Try.prog 10 #[.slice A1 n c1, .slice A2 n c2] W (QuietB W true)) := Lib.hid fun W A1 c1 A2 c2 h1 h2 => by
    have := rsec_same A1 A2 ss ss c1 c2 W h1.secs h2.secs (by omega) (fun s hs => by have := hL2 s hs; omega) (fun s hs => by have := hL2 s hs; omega)
    rw [hn, decide_eq_true rfl] at this
    exact this
  have HN := Lib.hid hn
  clear hO hR hs hl hL1 hL2 hn hg
  go_enter Try.func3, Try.ntmps3
  go_upto_region 3 with (go_at_call 7; refine HA.out.mono ?_; rintro e w1 ⟨rfl, hb1⟩)
  go_cut [0] (fun s0 wx => s0 = .slice A m c ∧ wx = w1)
  case first =>
    by_cases hs : (len : Int) ≤ 70000
    · obtain rfl : len = m := by omega
      go_wp2
      go_meet
      exact ⟨rfl, rfl⟩
    · obtain rfl : m = 70000 := by omega
      go_wp2
      go_meet
      exact ⟨rfl, rfl⟩
  case rest =>
    obtain ⟨rfl, rfl⟩ := hcut
    clear hm HA
    go_wp2_with fail
    refine (HO.out _ hb1).mono ?_
    rintro e w2 ⟨A2, c2, rfl, hs2, _, hb2⟩
    have hb3 := hb1.trans (hb2.mono hb1.size)
    have HS2 := Lib.hid hs2
    simp only [HN.out]
    clear hs2 hb1 hb2 HO
    go_wp2_with fail
    refine (HR.out _ hb3).mono ?_
    rintro e w3 ⟨A3, c3, rfl, hs3, _, hb4⟩
    have hb5 := hb3.trans (hb4.mono hb3.size)
    have HS3 := Lib.hid (And.intro ((HS2.out.below hb4).more hb4.size) hs3)
    simp only [HN.out]
    clear hs3 hb3 hb4 HR HS2
    go_wp2_with fail
    refine (HT.out _ _ _ HS3.out.1).mono ?_
    rintro e w4 ⟨A4, c4, rfl, hs4, hb6⟩
    have hb7 := hb5.trans (hb6.mono hb5.size)
    have HS4 := Lib.hid (And.intro ((HS3.out.2.below hb6).more hb6.size) hs4)
    clear hs4 hb5 hb6 HT HS3
    go_wp2_with fail
    refine (HSM.out _ _ _ _ _ HS4.out.2 HS4.out.1).mono ?_
    rintro e w5 ⟨rfl, q, rfl⟩
    have HB := Lib.hid (below_drewN hb7 q)
    clear hb7 HSM HS4
    go_wp2
    go_ret
    exact ⟨rfl, HB.out⟩
theorem Slc.cut {w : World} {B : Nat} {A : Option Addr} {c : Nat} {l : List Nat} (h : Slc w B A c l) (m : Nat) : Slc w B A c (l.take m) := ⟨h.bytes.take m, h.nil, by have := h.room; simp; omega⟩
theorem splits_law (A : Option Addr) (l : List Nat) (c : Nat) (w : World) (hs : Slc w w.heap.size A c l) :
    Calls Try.prog 3 #[.slice A l.length c] w fun e w' => e = .returned (.bool true) ∧ Below w.heap.size w w' := by
  have hr := hs.room
  exact splits_any A l.length c (min l.length 70000) w (l.take (min l.length 70000)) (by omega) (by omega) (by simp) (hs.cut _)
end Go.Proofs.Ytelcoeeijkainaa.Sec
