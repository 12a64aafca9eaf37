/-
  trammelref04.Of: the kind of an access, or none. No condition.
-/
import Derived.Test.YtaagingcjmkcdaaLebOwn
import Derived.Handy
namespace Go.Proofs.Ytaagingcjmkcdaa.Pack
open Go.RowKit

/-- The kind of an access: its code, the bits of its type, its bytes, signed, a store. -/
structure Kind where
  op : Int
  bits : Nat
  bytes : Nat
  signed : Bool
  store : Bool
  deriving DecidableEq
def kinds : List Kind := [⟨40, 32, 4, false, false⟩, ⟨41, 64, 8, false, false⟩, ⟨44, 32, 1, true, false⟩, ⟨45, 32, 1, false, false⟩, ⟨46, 32, 2, true, false⟩, ⟨47, 32, 2, false, false⟩, ⟨48, 64, 1, true, false⟩, ⟨49, 64, 1, false, false⟩, ⟨50, 64, 2, true, false⟩, ⟨51, 64, 2, false, false⟩, ⟨52, 64, 4, true, false⟩, ⟨53, 64, 4, false, false⟩, ⟨54, 32, 4, false, true⟩, ⟨55, 64, 8, false, true⟩, ⟨58, 32, 1, false, true⟩, ⟨59, 32, 2, false, true⟩, ⟨60, 64, 1, false, true⟩, ⟨61, 64, 2, false, true⟩, ⟨62, 64, 4, false, true⟩]
/-- A kind in memory, as a value. -/
def Kind.val (k : Kind) : Value := .agg #[.int .i64 k.op, .int .i64 k.bits, .int .i64 k.bytes, .bool k.signed, .bool k.store]
def noKind : Kind := ⟨0, 0, 0, false, false⟩
def kindOf (op : Int) : Option Kind := kinds.find? fun k => k.op == op
def tabCells : Array Value := #[.int .i64 40, .int .i64 32, .int .i64 4, .bool false, .bool false, .int .i64 41, .int .i64 64, .int .i64 8, .bool false, .bool false, .int .i64 44, .int .i64 32, .int .i64 1, .bool true, .bool false, .int .i64 45, .int .i64 32, .int .i64 1, .bool false, .bool false, .int .i64 46, .int .i64 32, .int .i64 2, .bool true, .bool false, .int .i64 47, .int .i64 32, .int .i64 2, .bool false, .bool false, .int .i64 48, .int .i64 64, .int .i64 1, .bool true, .bool false, .int .i64 49, .int .i64 64, .int .i64 1, .bool false, .bool false, .int .i64 50, .int .i64 64, .int .i64 2, .bool true, .bool false, .int .i64 51, .int .i64 64, .int .i64 2, .bool false, .bool false, .int .i64 52, .int .i64 64, .int .i64 4, .bool true, .bool false, .int .i64 53, .int .i64 64, .int .i64 4, .bool false, .bool false, .int .i64 54, .int .i64 32, .int .i64 4, .bool false, .bool true, .int .i64 55, .int .i64 64, .int .i64 8, .bool false, .bool true, .int .i64 58, .int .i64 32, .int .i64 1, .bool false, .bool true, .int .i64 59, .int .i64 32, .int .i64 2, .bool false, .bool true, .int .i64 60, .int .i64 64, .int .i64 1, .bool false, .bool true, .int .i64 61, .int .i64 64, .int .i64 2, .bool false, .bool true, .int .i64 62, .int .i64 64, .int .i64 4, .bool false, .bool true]
theorem tab_at : ∀ j, j < 19 → ∃ k, kinds[j]? = some k ∧ tabCells[j * 5]? = some (.int .i64 k.op) ∧ tabCells[j * 5 + 1]? = some (.int .i64 k.bits) ∧ tabCells[j * 5 + 2]? = some (.int .i64 k.bytes) ∧ tabCells[j * 5 + 3]? = some (.bool k.signed) ∧ tabCells[j * 5 + 4]? = some (.bool k.store) := by
  intro j h
  have hj : j = 0 ∨ j = 1 ∨ j = 2 ∨ j = 3 ∨ j = 4 ∨ j = 5 ∨ j = 6 ∨ j = 7 ∨ j = 8 ∨ j = 9 ∨ j = 10 ∨ j = 11 ∨ j = 12 ∨ j = 13 ∨ j = 14 ∨ j = 15 ∨ j = 16 ∨ j = 17 ∨ j = 18 := by omega
  rcases hj with rfl | rfl | rfl | rfl | rfl | rfl | rfl | rfl | rfl | rfl | rfl | rfl | rfl | rfl | rfl | rfl | rfl | rfl | rfl
  · exact ⟨_, rfl, rfl, rfl, rfl, rfl, rfl⟩
  · exact ⟨_, rfl, rfl, rfl, rfl, rfl, rfl⟩
  · exact ⟨_, rfl, rfl, rfl, rfl, rfl, rfl⟩
  · exact ⟨_, rfl, rfl, rfl, rfl, rfl, rfl⟩
  · exact ⟨_, rfl, rfl, rfl, rfl, rfl, rfl⟩
  · exact ⟨_, rfl, rfl, rfl, rfl, rfl, rfl⟩
  · exact ⟨_, rfl, rfl, rfl, rfl, rfl, rfl⟩
  · exact ⟨_, rfl, rfl, rfl, rfl, rfl, rfl⟩
  · exact ⟨_, rfl, rfl, rfl, rfl, rfl, rfl⟩
  · exact ⟨_, rfl, rfl, rfl, rfl, rfl, rfl⟩
  · exact ⟨_, rfl, rfl, rfl, rfl, rfl, rfl⟩
  · exact ⟨_, rfl, rfl, rfl, rfl, rfl, rfl⟩
  · exact ⟨_, rfl, rfl, rfl, rfl, rfl, rfl⟩
  · exact ⟨_, rfl, rfl, rfl, rfl, rfl, rfl⟩
  · exact ⟨_, rfl, rfl, rfl, rfl, rfl, rfl⟩
  · exact ⟨_, rfl, rfl, rfl, rfl, rfl, rfl⟩
  · exact ⟨_, rfl, rfl, rfl, rfl, rfl, rfl⟩
  · exact ⟨_, rfl, rfl, rfl, rfl, rfl, rfl⟩
  · exact ⟨_, rfl, rfl, rfl, rfl, rfl, rfl⟩
/-- What Of has laid when its loop begins. -/
structure OfAt (wo W : World) : Prop where
  size : W.heap.size = wo.heap.size + 2
  below : Below wo.heap.size wo W
  tab : ∀ j, W.cell? ⟨wo.heap.size + 1, j, none⟩ = tabCells[j]?
  res : W.heap[wo.heap.size]? = some (.cells #[.int .i64 0, .int .i64 0, .int .i64 0, .bool false, .bool false] 26)
theorem of_at (wo : World) : OfAt wo ((wo.alloc (.cells #[.int .i64 0, .int .i64 0, .int .i64 0, .bool false, .bool false] 26)).alloc (.cells tabCells 26)) := by
  refine ⟨by simp, ((Below.refl _ _).alloc (Nat.le_refl _) _).alloc (by simp) _, fun j => ?_, ?_⟩
  · have := (MapKept.heap_alloc (wo.alloc (.cells #[.int .i64 0, .int .i64 0, .int .i64 0, .bool false, .bool false] 26)) (.cells tabCells 26)).1
    have hs : (wo.alloc (.cells #[.int .i64 0, .int .i64 0, .int .i64 0, .bool false, .bool false] 26)).heap.size = wo.heap.size + 1 := by simp
    rw [hs] at this
    simp only [World.cell?, this]
    simp
  · rw [Below.heap_alloc _ _ _ (by simp), (MapKept.heap_alloc wo _).1]
/-- What Of answers. -/
def OfIs (w : World) (k : Option Kind) (e : Ending) (w' : World) : Prop := e = .returned (.tuple #[(k.getD noKind).val, .bool k.isSome]) ∧ Below w.heap.size w w'
theorem find_here {op : Int} {j : Nat} {k : Kind} (h : kindOf op = (kinds.drop j).find? fun k => k.op == op) (hk : kinds[j]? = some k) (he : k.op = op) : kindOf op = some k := by
  obtain ⟨hj, rfl⟩ := List.getElem?_eq_some_iff.1 hk
  rw [h, List.drop_eq_getElem_cons hj, List.find?_cons_of_pos (by simp [he])]
theorem find_next {op : Int} {j : Nat} {k : Kind} (h : kindOf op = (kinds.drop j).find? fun k => k.op == op) (hk : kinds[j]? = some k) (he : ¬ k.op = op) : kindOf op = (kinds.drop (j + 1)).find? fun k => k.op == op := by
  obtain ⟨hj, rfl⟩ := List.getElem?_eq_some_iff.1 hk
  rw [h, List.drop_eq_getElem_cons hj, List.find?_cons_of_neg (by simp [he])]
set_option maxHeartbeats 4000000 in
set_option maxRecDepth 100000 in
theorem of_any (op : Int) (wo : World) :
    Calls Try.prog 8 #[.int .i64 op] wo (OfIs wo (kindOf op)) := by
  have hat := of_at wo
  unfold tabCells at hat
  have HAT := Lib.hid hat
  clear hat
  go_enter Try.func8, Try.ntmps8
  go_wp2
  generalize (wo.alloc _).alloc _ = W at *
  have hR := Lib.hid HAT.out.res
  have r0 : W.cell? ⟨wo.heap.size, 0, none⟩ = some (.int .i64 0) := by simp [World.cell?, hR.out]
  have r1 : W.cell? ⟨wo.heap.size, 1, none⟩ = some (.int .i64 0) := by simp [World.cell?, hR.out]
  have r2 : W.cell? ⟨wo.heap.size, 2, none⟩ = some (.int .i64 0) := by simp [World.cell?, hR.out]
  have r3 : W.cell? ⟨wo.heap.size, 3, none⟩ = some (.bool false) := by simp [World.cell?, hR.out]
  have r4 : W.cell? ⟨wo.heap.size, 4, none⟩ = some (.bool false) := by simp [World.cell?, hR.out]
  have z0 : W.frozen? ⟨wo.heap.size, 0, none⟩ = false := by simp [World.frozen?, hR.out]
  have z1 : W.frozen? ⟨wo.heap.size, 1, none⟩ = false := by simp [World.frozen?, hR.out]
  have z2 : W.frozen? ⟨wo.heap.size, 2, none⟩ = false := by simp [World.frozen?, hR.out]
  have z3 : W.frozen? ⟨wo.heap.size, 3, none⟩ = false := by simp [World.frozen?, hR.out]
  have z4 : W.frozen? ⟨wo.heap.size, 4, none⟩ = false := by simp [World.frozen?, hR.out]
  go_loop [5] (fun i => ∃ j : Nat, j ≤ 19 ∧ i = .int .i64 (j : Int) ∧ Hid (kindOf op = (kinds.drop j).find? fun k => k.op == op)) (fun i => 19 - (intOf i).toNat)
  case atStart => exact ⟨0, by omega, rfl, Lib.hid rfl⟩
  case round =>
    obtain ⟨j, hj, rfl, HJ⟩ := hrel
    by_cases hlt : j < 19
    · obtain ⟨k, hk, c0, c1, c2, c3, c4⟩ := tab_at j hlt
      rw [← HAT.out.tab] at c0 c1 c2 c3 c4
      have hlti : (j : Int) < 19 := by omega
      have HK := Lib.hid hk
      clear hk
      by_cases he : k.op = op
      · have hb : (k.op == op) = true := by simp [he]
        have hf := Lib.hid (find_here HJ.out HK.out he)
        go_wp2
        refine bodyPost_ret (v := .tuple #[(Kind.mk op k.bits k.bytes k.signed k.store).val, .bool true]) (by simp [results, Try.results8, go_sem, Kind.val, r0, r1, r2, r3, r4]) rfl ?_
        rw [hf.out]
        refine ⟨?_, ?_⟩
        · subst he; rfl
        · exact ((((HAT.out.below.setCell (Nat.le_refl _) _).setCell (Nat.le_refl _) _).setCell (Nat.le_refl _) _).setCell (Nat.le_refl _) _).setCell (Nat.le_refl _) _
      · have hb : (k.op == op) = false := by simp [he]
        have hf := Lib.hid (find_next HJ.out HK.out he)
        go_wp2
        refine ⟨⟨j + 1, by omega, by go_num, hf⟩, ?_⟩
        simp [intOf]; omega
    · have hlti : ¬ (j : Int) < 19 := by omega
      have hf : Hid (kindOf op = none) := Lib.hid (by have := HJ.out; rw [List.drop_of_length_le (by simp [kinds]; omega)] at this; simpa using this)
      go_wp2
      refine bodyPost_ret (v := .tuple #[noKind.val, .bool false]) (by simp [results, Try.results8, go_sem, Kind.val, noKind, r0, r1, r2, r3, r4]) rfl ?_
      rw [hf.out]
      refine ⟨rfl, ?_⟩
      exact ((((HAT.out.below.setCell (Nat.le_refl _) _).setCell (Nat.le_refl _) _).setCell (Nat.le_refl _) _).setCell (Nat.le_refl _) _).setCell (Nat.le_refl _) _
end Go.Proofs.Ytaagingcjmkcdaa.Pack
