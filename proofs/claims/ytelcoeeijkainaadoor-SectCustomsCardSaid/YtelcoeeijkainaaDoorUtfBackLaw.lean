/-
  trammellaw02.UtfBack answers true for every text and every slice of bytes behind it. Conditions: the library's two tables of utf8 hold what they were laid with; the bytes lie in memory as a slice's cells.
-/
import Derived.Test.YtelcoeeijkainaaDoorUtfRightLaw
import Derived.Test.YtelcoeeijkainaaDoorLebBackU
namespace Go.Proofs.YtelcoeeijkainaaDoor.Utf
open Go.RowKit Go.Proofs.YtelcoeeijkainaaDoor.Leb

theorem strOf_bl (s : ByteArray) : strOf (bl s) = s := by
  apply ByteArray.ext
  apply Array.ext'
  unfold strOf
  rw [strOfNums_data]
  unfold bl
  rw [List.map_map, List.map_map]
  conv => rhs; rw [← List.map_id s.data.toList]
  apply List.map_congr_left
  intro x _
  simp [Function.comp]
theorem fault_size (s : ByteArray) (h : faultOf (bl s) = 0) : s.size ≤ 64 ∧ vld (bl s) = true := by
  unfold faultOf at h
  rw [bl_len] at h
  cases hv : vld (bl s) with
  | false => rw [hv, if_pos rfl] at h; omega
  | true =>
    rw [hv, if_neg (by simp)] at h
    by_cases h64 : 64 < s.size
    · rw [if_pos h64] at h; omega
    · exact ⟨by omega, rfl⟩
/-- A name is read as it was put. -/
theorem name_put (s : ByteArray) (more : List Nat) (h : faultOf (bl s) = 0) : nameRes (putU s.size ++ bl s ++ more) = (s, (putU s.size ++ bl s).length, 0) := by
  obtain ⟨h64, hv⟩ := fault_size s h
  have hu := uRes_put s.size 32 (bl s ++ more) (by omega) (by omega) (by omega)
  rw [← List.append_assoc] at hu
  have hd : ((putU s.size ++ bl s ++ more).drop (putU s.size).length).take s.size = bl s := by
    rw [List.append_assoc, List.drop_left, ← bl_len s, List.take_left]
  unfold nameRes
  rw [hu]
  simp only
  rw [hd, if_neg (by simp), if_neg (by simp only [List.length_append, bl_len]; omega), if_neg (by rw [hv]; simp), if_neg (by omega), strOf_bl, List.length_append, bl_len]
theorem cut_len (len m : Nat) : (min (len : Int) (m : Int)).toNat = min len m := by omega
end Go.Proofs.YtelcoeeijkainaaDoor.Utf
