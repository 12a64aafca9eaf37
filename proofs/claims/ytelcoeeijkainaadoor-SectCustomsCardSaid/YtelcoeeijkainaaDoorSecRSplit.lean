/-
  trammelref07.Split: what it answers is splitRes. Condition: the slice leads to bytes.
-/
import Derived.Test.YtelcoeeijkainaaDoorSecHead
import Derived.Test.YtelcoeeijkainaaDoorSecCut
import Derived.Deep.DeepCutAuto
import Derived.Test.YtelcoeeijkainaaDoorLebRefU
import Derived.Test.YtelcoeeijkainaaDoorLebRefPut
namespace Go.Proofs.YtelcoeeijkainaaDoor.Sec
open Go.RowKit Leb

/-- What a split answers. -/
def SplitIs (w : World) (r : List Sec × Nat) (n : Nat) (e : Ending) (w' : World) : Prop := ∃ A c, e = .returned (.tuple #[.slice A n c, .int .i64 (r.2 : Int)]) ∧ Sli w' w'.heap.size A c r.1 ∧ r.1.length = n ∧ Below w.heap.size w w'
theorem splitIs_nil (w w' : World) (e : Nat) (h : Below w.heap.size w w') : SplitIs w ([], e) 0 (.returned (.tuple #[.slice none 0 0, .int .i64 (e : Int)])) w' := ⟨none, 0, rfl, ⟨Secs.nil _ _ _, Nat.le_refl _, fun _ => rfl⟩, rfl, h⟩
theorem splitIs_of {w w' : World} {R : List Sec × Nat} {es : List Ent} {e : Nat} {A : Option Addr} {c : Nat} (hR : R = (es.map (fun e => e.1), e)) (hs : Sli w' w'.heap.size A c (es.map fun e => e.1)) (h : Below w.heap.size w w') : SplitIs w R R.1.length (.returned (.tuple #[.slice A es.length c, .int .i64 (e : Int)])) w' := by
  subst hR
  refine ⟨A, c, ?_, hs, rfl, h⟩
  rw [List.length_map]
/-- The state of a split at a place. -/
structure At (l : List Nat) (R : List Sec × Nat) (p : Nat) (es : List Ent) : Prop where
  le : p ≤ l.length
  few : es.length ≤ p
  ids : ∀ s ∈ es.map (fun e => e.1), 0 ≤ s.id ∧ s.id ≤ 12
  res : ∃ f, l.length - p < f ∧ splitF l f (es.map fun e => e.1) p = R
theorem At.done {l : List Nat} {R : List Sec × Nat} {es : List Ent} (h : At l R l.length es) : R = (es.map (fun e => e.1), 0) := by
  obtain ⟨f, hf, h⟩ := h.res
  obtain ⟨f, rfl⟩ : ∃ f', f = f' + 1 := ⟨f - 1, by omega⟩
  rw [← h]
  simp only [splitF]
  rw [if_pos (Nat.le_refl _)]
theorem At.bad {l : List Nat} {R : List Sec × Nat} {p : Nat} {es : List Ent} (h : At l R p es) (hp : p < l.length) (hm : may (es.map fun e => e.1) (l[p] : Nat) = false) : R = (es.map (fun e => e.1), 2) := by
  obtain ⟨f, hf, h⟩ := h.res
  obtain ⟨f, rfl⟩ : ∃ f', f = f' + 1 := ⟨f - 1, by omega⟩
  rw [← h]
  have hg : l.getD p 0 = l[p] := by simp [List.getD, hp]
  simp only [splitF, hg]
  rw [if_neg (by omega), if_pos hm]
theorem At.num {l : List Nat} {R : List Sec × Nat} {p u s e : Nat} {es : List Ent} (h : At l R p es) (hp : p < l.length) (hm : may (es.map fun e => e.1) (l[p] : Nat) = true) (hu : uRes (l.drop (p + 1)) 32 = (u, s, e)) (he : e ≠ 0) : R = (es.map (fun e => e.1), e) := by
  obtain ⟨f, hf, h⟩ := h.res
  obtain ⟨f, rfl⟩ : ∃ f', f = f' + 1 := ⟨f - 1, by omega⟩
  rw [← h]
  have hg : l.getD p 0 = l[p] := by simp [List.getD, hp]
  simp only [splitF, hg]
  rw [if_neg (by omega), if_neg (by rw [hm]; simp), hu, if_pos he]
theorem At.short {l : List Nat} {R : List Sec × Nat} {p u s : Nat} {es : List Ent} (h : At l R p es) (hp : p < l.length) (hm : may (es.map fun e => e.1) (l[p] : Nat) = true) (hu : uRes (l.drop (p + 1)) 32 = (u, s, 0)) (hl : l.length - (p + 1 + s) < u) : R = (es.map (fun e => e.1), 1) := by
  obtain ⟨f, hf, h⟩ := h.res
  obtain ⟨f, rfl⟩ : ∃ f', f = f' + 1 := ⟨f - 1, by omega⟩
  rw [← h]
  have hg : l.getD p 0 = l[p] := by simp [List.getD, hp]
  simp only [splitF, hg]
  rw [if_neg (by omega), if_neg (by rw [hm]; simp), hu]
  simp only [ne_eq, not_true_eq_false, if_false]
  rw [if_pos hl]
theorem At.next {l : List Nat} {R : List Sec × Nat} {p u s : Nat} {es : List Ent} (h : At l R p es) (hp : p < l.length) (hm : may (es.map fun e => e.1) (l[p] : Nat) = true) (hu : uRes (l.drop (p + 1)) 32 = (u, s, 0)) (hl : ¬ l.length - (p + 1 + s) < u) (A : Option Addr) (c : Nat) :
    At l R (p + 1 + s + u) (es ++ [((⟨(l[p] : Nat), (l.drop (p + 1 + s)).take u⟩ : Sec), A, c)]) := by
  have hi := uRes_in hu
  rw [List.length_drop] at hi
  have hfew := h.few
  have hids := h.ids
  obtain ⟨f, hf, h⟩ := h.res
  obtain ⟨f, rfl⟩ : ∃ f', f = f' + 1 := ⟨f - 1, by omega⟩
  have hg : l.getD p 0 = l[p] := by simp [List.getD, hp]
  rw [splitF_step l f p u s _ hp (by rw [hg]; exact hm) hu hl, hg] at h
  refine ⟨by omega, by rw [List.length_append]; simp; omega, fun s' hs => ?_, f, by omega, ?_⟩
  · rw [List.map_append] at hs
    rcases List.mem_append.1 hs with hs | hs
    · exact hids s' hs
    · have : s' = ⟨(l[p] : Nat), (l.drop (p + 1 + s)).take u⟩ := by simpa using hs
      rw [this]
      exact may_range hm
  · rw [List.map_append]; exact h
theorem At.start (l : List Nat) (h : headErr l = 0) (hl : ¬ 65536 < l.length) (h8 : 8 ≤ l.length) : At l (splitRes l) 8 [] :=
  ⟨h8, by simp, by simp, l.length + 1, by omega, by unfold splitRes; rw [if_neg hl, h]; simp⟩
theorem uRes_lt32 {l : List Nat} {u s : Nat} (h : uRes l 32 = (u, s, 0)) : u < 4294967296 := by
  have := uRes_32 l (by rw [h])
  rw [h] at this
  exact this.1
theorem split_sums (p s u n s1 q1 d x : Nat) (hp : p < n) (hn : (n : Int) ≤ 65536) (hs : 1 ≤ s ∧ s ≤ n - (p + 1)) (hu : u < 4294967296) (e1 : 1 + s = s1) (e2 : p + 1 + s = q1) (e3 : n - q1 = d) (e4 : q1 + u = x) :
    wrap64 (1 + (s : Int)) = (s1 : Int) ∧ wrap64 ((p : Int) + (s1 : Int)) = (q1 : Int) ∧ wrap64 ((n : Int) - (q1 : Int)) = (d : Int) ∧ IntKind.u64.wrap (d : Int) = (d : Int) ∧ wrap64 (u : Int) = (u : Int) ∧ wrap64 ((q1 : Int) + (u : Int)) = (x : Int) := by
  have h1 : 1 + (s : Int) = (s1 : Int) := by omega
  have h2 : (p : Int) + (s1 : Int) = (q1 : Int) := by omega
  have h3 : (n : Int) - (q1 : Int) = (d : Int) := by omega
  have h7 : (q1 : Int) + (u : Int) = (x : Int) := by omega
  rw [h1, h2, h3, h7]
  have h5 : (s1 : Int) ≤ 65536 := by omega
  have h6 : (d : Int) ≤ 65536 := by omega
  have h4 : (q1 : Int) ≤ 65536 := by omega
  have h8 : (x : Int) ≤ 4295032832 := by omega
  have h9 : (u : Int) ≤ 4294967296 := by omega
  exact ⟨IntWalk.wrap64_in _ (by omega), IntWalk.wrap64_in _ (by omega), IntWalk.wrap64_in _ (by omega), IntWalk.u64_in _ (by omega), IntWalk.wrap64_in _ (by omega), IntWalk.wrap64_in _ (by omega)⟩
theorem below_lit {w W : World} {B : Nat} (h : Below B w W) (hB : B ≤ W.heap.size) (o : Obj) : Below B w (W.alloc o) := h.alloc hB o
end Go.Proofs.YtelcoeeijkainaaDoor.Sec
