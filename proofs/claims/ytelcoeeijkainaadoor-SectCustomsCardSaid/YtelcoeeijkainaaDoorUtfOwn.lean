/-
  utf.Valid, utf.fault: what each comes to. Conditions: the library's two tables of utf8 hold what they were laid with; the text has fewer than 2^63 bytes.
-/
import Derived.Test.YtelcoeeijkainaaDoorUtfShelf
import Derived.Test.YtelcoeeijkainaaDoorUtfLib
import Derived.Test.YtelcoeeijkainaaDoorUtfValid
namespace Go.Proofs.YtelcoeeijkainaaDoor.Utf
open Go.RowKit Go.Proofs.YtelcoeeijkainaaDoor.Leb

/-- The library's two tables hold what they were laid with. -/
def Tabs (w : World) : Prop := Lib.Utf8Tabs (Tryd.laysValid_ren.g 3) (Tryd.laysValid_ren.g 4) w
theorem Tabs.below {w w' : World} (h : Tabs w) (hb : Below w.heap.size w w') : Tabs w' := Utf8Tabs_below h hb
theorem uvalid_any (s : ByteArray) (w : World) (hs : s.size ≤ 9223372036854775807) (hT : Tabs w) :
    Calls Tryd.prog 30 #[.string s] w fun e w' => e = .returned (.bool (vld (bl s))) ∧ Below w.heap.size w w' := by
  have cV : Calls Tryd.prog 33 #[.string s] w _ := Any.utf8_ValidString Tryd.laysValid s w hs hT
  rw [validD_vld _ _ (Nat.le_refl _)] at cV
  have HV := Lib.hid cV
  clear cV
  go_enter Tryd.func30, Tryd.ntmps30
  go_wp2_with (go_at_call 33; refine HV.out.mono ?_; rintro e w' ⟨rfl, hb⟩)
  go_ret
  exact ⟨rfl, hb⟩
/-- Why a text is no name. -/
def faultOf (l : List Nat) : Nat := if vld l = false then 2 else if 64 < l.length then 4 else 0
theorem fault_any (s : ByteArray) (w : World) (hs : s.size ≤ 9223372036854775807) (hT : Tabs w) :
    Calls Tryd.prog 23 #[.string s] w fun e w' => e = .returned (.int .i64 (faultOf (bl s) : Int)) ∧ Below w.heap.size w w' := by
  have cV := uvalid_any s w hs hT
  unfold faultOf
  rw [bl_len]
  cases hv : vld (bl s) with
  | false =>
    rw [hv] at cV
    have HV := Lib.hid cV
    clear cV hv
    go_enter Tryd.func23, Tryd.ntmps23
    go_wp2_with (go_at_call 30; refine HV.out.mono ?_; rintro e w' ⟨rfl, hb⟩)
    go_ret
    exact ⟨rfl, hb⟩
  | true =>
    rw [hv] at cV
    have HV := Lib.hid cV
    clear cV hv
    rw [if_neg (by simp)]
    by_cases h64 : 64 < s.size
    · have h64i : (64 : Int) < (s.size : Int) := by omega
      rw [if_pos h64]
      go_enter Tryd.func23, Tryd.ntmps23
      go_wp2_with (go_at_call 30; refine HV.out.mono ?_; rintro e w' ⟨rfl, hb⟩)
      go_ret
      exact ⟨rfl, hb⟩
    · have h64i : ¬ (64 : Int) < (s.size : Int) := by omega
      rw [if_neg h64]
      go_enter Tryd.func23, Tryd.ntmps23
      go_wp2_with (go_at_call 30; refine HV.out.mono ?_; rintro e w' ⟨rfl, hb⟩)
      go_ret
      exact ⟨rfl, hb⟩
end Go.Proofs.YtelcoeeijkainaaDoor.Utf
