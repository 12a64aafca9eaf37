/-
  trammellaw02.UtfRight answers true for every text. Condition: the library's two tables of utf8 hold what they were laid with.
-/
import Derived.Test.YteecpjaofekfdaaDoorUtfAwake
namespace Go.Proofs.YteecpjaofekfdaaDoor.Utf
open Go.RowKit Go.Proofs.YteecpjaofekfdaaDoor.Leb

theorem cut_size (s : ByteArray) (m : Nat) : (s.extract 0 (min (s.size : Int) (m : Int)).toNat).size ≤ m := by
  rw [ByteArray.size_extract]; omega
theorem right_law (s : ByteArray) (w : World) (hT : Tabs w) (hs : s.size ≤ 9223372036854775807) :
    Calls Tryd.prog 3 #[.string s] w fun e w' => e = .returned (.bool true) ∧ Below w.heap.size w w' := by
  have HA := Lib.hid (awake_any w hT)
  go_enter Tryd.func3, Tryd.ntmps3
  go_wp2_with (go_at_call 8; refine HA.out.mono ?_; rintro e w1 ⟨rfl, hb1⟩)
  have hsz := cut_size s 3000
  rw [show (((3000 : Nat) : Int)) = 3000 from rfl] at hsz
  generalize s.extract 0 (min (s.size : Int) 3000).toNat = t at *
  refine (uvalid_any t w1 (by omega) (hT.below hb1)).mono ?_
  rintro e w2 ⟨rfl, hb2⟩
  have hb3 := hb1.trans (hb2.mono hb1.size)
  go_wp2_with fail
  refine (valid_any t w2 (by omega)).mono ?_
  rintro e w4 ⟨rfl, hb4⟩
  have hb5 := hb3.trans (hb4.mono hb3.size)
  clear HA hb1 hb2 hb3 hb4 hT
  cases vld (bl t) with
  | true =>
    go_wp2
    go_ret
    exact ⟨rfl, hb5⟩
  | false =>
    go_wp2
    go_ret
    exact ⟨rfl, hb5⟩
end Go.Proofs.YteecpjaofekfdaaDoor.Utf
