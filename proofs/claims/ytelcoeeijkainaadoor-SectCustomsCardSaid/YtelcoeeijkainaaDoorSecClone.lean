/-
  bytes.Clone, sect.begins: what each comes to. Conditions: slices lead to bytes.
-/
import Derived.Test.YtelcoeeijkainaaDoorSecOrd
import Derived.Test.YtelcoeeijkainaaDoorLebRefPut
import Derived.Lib.SliceRun
namespace Go.Proofs.YtelcoeeijkainaaDoor.Sec
open Go.RowKit Leb

theorem clone_none (w : World) : Calls Tryd.prog 13 #[.slice none 0 0] w (Gives w []) := by
  have q22 : ∀ (w : World) (a : Option Addr) (n c n' c' : Nat), (binOp .eql 22 (.slice a n c) (.slice none n' c')).run Tryd.prog w = .ok (.bool a.isNone) w := fun w a n c n' c' => Lib.run_eql_slice_nil w _ _ a n c n' c' Tryd.underlying22
  go_enter Tryd.func13, Tryd.ntmps13
  go_wp2
  go_ret
  exact ⟨_, rfl, Own.nil _ _, Below.refl _ _⟩
theorem clone_some (ad : Addr) (l : List Nat) (c : Nat) (w : World) (hb : Bytes w w.heap.size (some ad) l) (hl : l.length ≤ 70368744177664) : Calls Tryd.prog 13 #[.slice (some ad) l.length c] w (Gives w l) := by
  have hb1 : Below w.heap.size w (w.alloc (.cells #[] 5)) := (Below.refl _ _).alloc (Nat.le_refl _) _
  have hB := hb.below hb1
  have hO := own_empty w
  have hsz := hb1.size
  clear hb
  have q22 : ∀ (w : World) (a : Option Addr) (n c n' c' : Nat), (binOp .eql 22 (.slice a n c) (.slice none n' c')).run Tryd.prog w = .ok (.bool a.isNone) w := fun w a n c n' c' => Lib.run_eql_slice_nil w _ _ a n c n' c' Tryd.underlying22
  go_enter Tryd.func13, Tryd.ntmps13
  go_wp2_with (at_builtin; refine app_bytes rfl (.tmp 5) (.tmp 6) rfl w.heap.size _ [] rfl hO (some ad) l c _ rfl hB (fun h => by cases h) (by simp; omega) hsz ?_; intro v2 w2 hown2 hbel2)
  go_ret
  exact ⟨v2, rfl, hown2, hb1.trans hbel2⟩
theorem clone_any (A : Option Addr) (l : List Nat) (c : Nat) (w : World) (hb : Bytes w w.heap.size A l) (hc : A = none → c = 0) (hl : l.length ≤ 70368744177664) : Calls Tryd.prog 13 #[.slice A l.length c] w (Gives w l) := by
  cases A with
  | none =>
    have hl0 : l = [] := by
      rcases Nat.eq_zero_or_pos l.length with h0 | h0
      · exact List.eq_nil_of_length_eq_zero h0
      · obtain ⟨b, off, he, _⟩ := hb.2 h0
        cases he
    subst hl0
    rw [hc rfl]
    exact clone_none w
  | some ad => exact clone_some ad l c w hb hl
theorem ret_nat {k : IntKind} {a : Int} {n : Nat} (h : n = a) : Ending.returned (.int k a) = .returned (.int k (n : Int)) := by rw [h]
set_option maxHeartbeats 1000000 in
set_option maxRecDepth 100000 in
theorem begins_any (A : Option Addr) (l : List Nat) (c B : Nat) (w : World) (hs : Slc w B A c l) : Calls Tryd.prog 20 #[.slice A l.length c] w fun e w' => e = .returned (.int .i64 (headErr l : Nat)) ∧ ∃ m, w' = w.drewN m := by
  have HS := Lib.hid hs
  clear hs
  go_enter Tryd.func20, Tryd.ntmps20
  go_wp2_with fail
  go_loopw [4] (fun x wr => ∃ (j q : Nat), j ≤ 8 ∧ j ≤ l.length ∧ x = .int .i64 (j : Int) ∧ wr = w.drewN q ∧ Hid (l.take j = headB.take j)) (fun i _ => 8 - (intOf i).toNat)
  case atStart => exact ⟨0, 0, by omega, by omega, by go_num, rfl, Lib.hid (by simp)⟩
  case round =>
    obtain ⟨j, q, hj8, hj, rfl, rfl, HT⟩ := hrel
    by_cases hj2 : j < 8
    · have hj2i : (j : Int) < 8 := by omega
      by_cases hjl : j < l.length
      · have hne : ((j : Int) == (l.length : Int)) = false := by simp; omega
        have hjli : (j : Int) < (l.length : Int) := by omega
        obtain ⟨b, off, rfl, hb, hc⟩ := HS.out.bytes.2 (by omega)
        have q0 : (w.drewN q).cell? ⟨b, off + j, none⟩ = some (.int .u8 (l[j] : Nat)) := hc j hjl
        have HW : Hid (∀ m, ∃ k, (w.drewN q).drewN m = w.drewN k) := Lib.hid fun m => ⟨_, World.drewN_drewN _ _ _⟩
        have HAT := headS_at j hj2
        by_cases hy : l[j] = headB.getD j 0
        · have HN := Lib.hid (head_next l j HT.out hj2 hjl hy)
          have hb2 : ((l[j] : Int) != ((({ data := #[0, 97, 115, 109, 1, 0, 0, 0] } : ByteArray)[j]'hj2).toNat : Int)) = false := by
            have : (({ data := #[0, 97, 115, 109, 1, 0, 0, 0] } : ByteArray)[j]'hj2).toNat = headB.getD j 0 := HAT
            rw [this, hy]; simp
          clear hc HAT hy HT
          generalize l[j] = y at *
          generalize w.drewN q = W at *
          go_wp2_with fail
          go_quiet (fail)
          go_wp2
          go_roundw
          case rel =>
            obtain ⟨k, hk⟩ := HW.out nq
            exact ⟨j + 1, k, by omega, by omega, by go_num, hk, HN⟩
          case measure => simp [intOf]; omega
        · have HE := Lib.hid (head_bad l j hj2 hjl hy)
          have hb2 : ((l[j] : Int) != ((({ data := #[0, 97, 115, 109, 1, 0, 0, 0] } : ByteArray)[j]'hj2).toNat : Int)) = true := by
            have : (({ data := #[0, 97, 115, 109, 1, 0, 0, 0] } : ByteArray)[j]'hj2).toNat = headB.getD j 0 := HAT
            rw [this]; exact bne_iff_ne.2 fun e => hy (by omega)
          clear hc HAT hy HT
          generalize l[j] = y at *
          generalize w.drewN q = W at *
          go_wp2_with fail
          go_quiet (fail)
          go_wp2
          go_ret
          rw [HE.out]
          exact ⟨rfl, HW.out nq⟩
      · obtain rfl : j = l.length := by omega
        have HE := Lib.hid (head_stop l l.length HT.out hj2 rfl)
        clear HT
        go_wp2
        go_ret
        rw [HE.out]
        exact ⟨rfl, q, rfl⟩
    · obtain rfl : j = 8 := by omega
      have HE := Lib.hid (head_ok l HT.out hj)
      clear HT
      go_wp2
      go_ret
      rw [HE.out]
      exact ⟨rfl, q, rfl⟩
end Go.Proofs.YtelcoeeijkainaaDoor.Sec
