/-
  trammellaw02.UtfJoined answers true for every two texts. Condition: the library's two tables of utf8 hold what they were laid with.
-/
import Derived.Test.YteecpjaofekfdaaDoorUtfRightLaw
import Derived.Test.YteecpjaofekfdaaDoorUtfLaws
namespace Go.Proofs.YteecpjaofekfdaaDoor.Utf
open Go.RowKit Go.Proofs.YteecpjaofekfdaaDoor.Leb

theorem bl_append (s t : ByteArray) : bl (s ++ t) = bl s ++ bl t := by
  unfold bl
  rw [ByteArray.data_append, Array.toList_append, List.map_append]
set_option maxHeartbeats 1000000 in
theorem joined_law (s t : ByteArray) (w : World) (hT : Tabs w) (hs : s.size ≤ 9223372036854775807) (ht : t.size ≤ 9223372036854775807) :
    Calls Tryd.prog 6 #[.string s, .string t] w fun e w' => e = .returned (.bool true) ∧ Below w.heap.size w w' := by
  have HA := Lib.hid (awake_any w hT)
  go_enter Tryd.func6, Tryd.ntmps6
  go_wp2_with (go_at_call 8; refine HA.out.mono ?_; rintro e w1 ⟨rfl, hb1⟩)
  go_quiet (fail)
  go_wp2_with fail
  have hsz := cut_size s 1000
  have htz := cut_size t 1000
  rw [show (((1000 : Nat) : Int)) = 1000 from rfl] at hsz htz
  generalize s.extract 0 (min (s.size : Int) 1000).toNat = s1 at *
  generalize t.extract 0 (min (t.size : Int) 1000).toNat = t1 at *
  have hb2 := below_drewN hb1 nq
  generalize w1.drewN nq = w2 at *
  clear hb1
  refine (uvalid_any s1 w2 (by omega) (hT.below hb2)).mono ?_
  rintro e w3 ⟨rfl, hb3⟩
  have hb4 := hb2.trans (hb3.mono hb2.size)
  go_wp2_with fail
  refine (uvalid_any t1 w3 (by omega) (hT.below hb4)).mono ?_
  rintro e w5 ⟨rfl, hb5⟩
  have hb6 := hb4.trans (hb5.mono hb4.size)
  go_wp2_with fail
  have hst : (s1 ++ t1).size ≤ 2000 := by rw [ByteArray.size_append]; omega
  refine (uvalid_any (s1 ++ t1) w5 (by omega) (hT.below hb6)).mono ?_
  rintro e w7 ⟨rfl, hb7⟩
  have hb8 := hb6.trans (hb7.mono hb6.size)
  have hap := vld_append _ (bl s1) (bl t1) (Nat.le_refl _)
  rw [← bl_append] at hap
  clear HA hb2 hb3 hb4 hb5 hb6 hb7 hT
  cases hx : vld (bl s1) with
  | true =>
    rw [hap hx]
    clear hx hap
    cases vld (bl t1) with
    | true =>
      go_wp2
      go_ret
      exact ⟨rfl, hb8⟩
    | false =>
      go_wp2
      go_ret
      exact ⟨rfl, hb8⟩
  | false =>
    clear hx hap
    go_wp2
    go_ret
    exact ⟨rfl, hb8⟩
end Go.Proofs.YteecpjaofekfdaaDoor.Utf
