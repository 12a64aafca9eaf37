/-
  A module's first bytes, looked at one by one: what is wrong with them. No condition; nothing of the program.
-/
import Derived.Test.YtelcoeeijkainaaDoorSecSlc
namespace Go.Proofs.YtelcoeeijkainaaDoor.Sec
open Go.RowKit Leb

theorem headB_len : headB.length = 8 := rfl
theorem head_stop (l : List Nat) (k : Nat) (h : l.take k = headB.take k) (hk : k < 8) (hl : l.length = k) : headErr l = 1 := by
  unfold headErr
  rw [Nat.min_eq_left (by omega), if_pos, if_pos (by omega)]
  rw [List.take_of_length_le (by omega), hl, ← h, List.take_of_length_le (by omega)]
theorem head_bad (l : List Nat) (k : Nat) (hk : k < 8) (hl : k < l.length) (hne : l[k] ≠ headB.getD k 0) : headErr l = 2 := by
  unfold headErr
  rw [if_neg]
  intro e
  apply hne
  have h1 : (l.take 8).getD k 0 = l[k] := by simp [List.getD, hk, hl]
  have h2 : (headB.take (min l.length 8)).getD k 0 = headB.getD k 0 := by
    simp only [List.getD, List.getElem?_take]
    rw [if_pos (by omega)]
  rw [← h1, e, h2]
theorem head_ok (l : List Nat) (h : l.take 8 = headB.take 8) (hl : 8 ≤ l.length) : headErr l = 0 := by
  unfold headErr
  rw [Nat.min_eq_right hl, if_pos h, if_neg (by omega)]
theorem head_next (l : List Nat) (k : Nat) (h : l.take k = headB.take k) (hk : k < 8) (hl : k < l.length) (he : l[k] = headB.getD k 0) : l.take (k + 1) = headB.take (k + 1) := by
  rw [List.take_succ_eq_append_getElem hl, List.take_succ_eq_append_getElem (by rw [headB_len]; exact hk), h, he]
  have h2 : k < headB.length := hk
  rw [List.getD, List.getElem?_eq_getElem h2]
  rfl
/-- The text, byte by byte. -/
def headS : ByteArray := { data := #[0, 97, 115, 109, 1, 0, 0, 0] }
theorem headS_at (k : Nat) (hk : k < 8) : (headS.data[k]'hk).toNat = headB.getD k 0 := by
  match k, hk with
  | 0, _ | 1, _ | 2, _ | 3, _ | 4, _ | 5, _ | 6, _ | 7, _ => rfl
end Go.Proofs.YtelcoeeijkainaaDoor.Sec
