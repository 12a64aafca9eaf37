/-
  trammelref07.Join: what it answers is joinRes. Conditions: the slice leads to sections, at most 1000, of at most 10^9 bytes together.
-/
import Derived.Test.YtelcoeeijkainaaDoorSecApp
import Derived.Test.YtelcoeeijkainaaDoorLebRefPut
import Derived.Deep.DeepCutAuto
namespace Go.Proofs.YtelcoeeijkainaaDoor.Sec
open Go.RowKit Leb

/-- What a join answers. -/
def JoinIs (w : World) (r : List Nat × Nat) (n : Nat) (e : Ending) (w' : World) : Prop := ∃ A c, e = .returned (.tuple #[.slice A n c, .int .i64 (r.2 : Int)]) ∧ Slc w' w'.heap.size A c r.1 ∧ r.1.length = n ∧ Below w.heap.size w w'
theorem joinIs_nil (w w' : World) (e : Nat) (h : Below w.heap.size w w') : JoinIs w ([], e) 0 (.returned (.tuple #[.slice none 0 0, .int .i64 (e : Int)])) w' := ⟨none, 0, rfl, ⟨⟨by simp, by simp⟩, fun _ => rfl, Nat.le_refl _⟩, rfl, h⟩
theorem order_at (l : List Sec) (j : Nat) (hj : j < l.length) : orderF (l.take j) (l.drop j) = (may (l.take j) l[j].id && orderF (l.take (j + 1)) (l.drop (j + 1))) := by
  rw [List.drop_eq_getElem_cons hj, orderF, List.take_succ_eq_append_getElem hj]
theorem join_at (l : List Sec) (j : Nat) (hj : j < l.length) : joinBytes (l.take (j + 1)) = joinBytes (l.take j) ++ (l[j].id.toNat :: (putU l[j].b.length ++ l[j].b)) := by
  unfold joinBytes secsBytes
  rw [List.take_succ_eq_append_getElem hj]
  simp only [List.flatMap_append, List.flatMap_cons, List.flatMap_nil, List.append_nil, List.append_assoc, secBytes]
theorem join_le (l : List Sec) (j : Nat) : (joinBytes (l.take j)).length ≤ (joinBytes l).length := by
  have h : joinBytes l = joinBytes (l.take j) ++ secsBytes (l.drop j) := by
    have h2 := congrArg joinBytes (List.take_append_drop j l)
    rw [← h2]
    simp only [joinBytes, secsBytes, List.flatMap_append, List.append_assoc]
  rw [h, List.length_append]
  omega
theorem join_mem (l : List Sec) (hi : ∀ s ∈ l, 0 ≤ s.id ∧ s.id ≤ 12) (hb : ∀ s ∈ l, ∀ x ∈ s.b, x < 256) : ∀ x ∈ joinBytes l, x < 256 := by
  intro x hx
  unfold joinBytes at hx
  rcases List.mem_append.1 hx with h | h
  · have : ∀ y ∈ headB, y < 256 := by decide
    exact this x h
  · obtain ⟨s, hs, h⟩ := List.mem_flatMap.1 h
    unfold secBytes at h
    rcases List.mem_cons.1 h with rfl | h
    · have := hi s hs; omega
    · rcases List.mem_append.1 h with h | h
      · exact putUf_byte _ _ x h
      · exact hb s hs x h
theorem quiet_still {P : Program} {f : FuncId} {args : Array Value} {w : World} {v : Value} (h : Calls P f args w (Still w v)) : Calls P f args w fun e w' => e = .returned v ∧ ∃ m, w' = w.drewN m := h.mono fun _ _ ⟨a, b⟩ => ⟨a, 0, b.symm⟩
theorem Sli.mem {w : World} {B : Nat} {A : Option Addr} {c : Nat} {l : List Sec} (h : Sli w B A c l) : ∀ s ∈ l, ∀ x ∈ s.b, x < 256 := by
  intro s hs
  obtain ⟨j, hj, rfl⟩ := List.getElem_of_mem hs
  obtain ⟨b, off, _, _, hc⟩ := h.secs (by omega)
  obtain ⟨_, _, _, _, h1, _⟩ := hc j hj
  exact h1.1
end Go.Proofs.YtelcoeeijkainaaDoor.Sec
