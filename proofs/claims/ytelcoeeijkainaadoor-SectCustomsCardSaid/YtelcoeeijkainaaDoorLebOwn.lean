/-
  Bytes that a call made itself: a slice value that owns them; append onto them from bytes in memory; how they read. Conditions as each lemma says.
-/
import Derived.Test.YtelcoeeijkainaaDoorLebBytes
import Derived.Maps.AppendAt
import Derived.Laws.AppendOwnNone
import Derived.Laws.OwnMore
import Derived.OwnWalk
namespace Go.Proofs.YtelcoeeijkainaaDoor.Leb
open Go.RowKit

def bv (x : Nat) : Value := .int .u8 (x : Int)
theorem u8_info : (Tryd.prog.info? 5).map (fun i => (i.zero, i.size, i.bytes)) = some (some (.int .u8 0), 1, 1) := by kernel_rfl
/-- The slice value v owns the bytes l, in a block from 'base' on. -/
def Own (w : World) (base : Nat) (v : Value) (l : List Nat) : Prop := w.ownsRow base 5 1 v l.length (l.map bv)
theorem Own.alloc {w : World} {base : Nat} {v : Value} {l : List Nat} (h : Own w base v l) (o : Obj) : Own (w.alloc o) base v l := World.ownsRow.alloc h o
theorem Own.drewN {w : World} {base : Nat} {v : Value} {l : List Nat} (h : Own w base v l) (n : Nat) : Own (w.drewN n) base v l := h
theorem Own.nil (w : World) (base : Nat) : Own w base (.slice none 0 0) [] := World.ownsRow_nil _ _ _ _
theorem Own.keep {w w' : World} {base B : Nat} {v : Value} {l : List Nat} (h : Own w base v l) (hb : Below B w w') (hB : ∀ k, v.ownBlock = some k → k < B) : Own w' base v l := by
  refine ⟨h.1, ?_⟩
  rcases h.2 with ⟨rfl, h0⟩ | ⟨g, cap, cur, rfl, h1, h2, h3, h4, h5⟩
  · exact .inl ⟨rfl, h0⟩
  · exact .inr ⟨g, cap, cur, rfl, h1, (hb.block g (hB g rfl)).trans h2, h3, h4, h5⟩
theorem Own.lt {w : World} {base : Nat} {v : Value} {l : List Nat} (h : Own w base v l) : ∀ k, v.ownBlock = some k → k < w.heap.size := fun k hk => (World.ownsRow.lt h k hk).2
/-- What is owned, as a slice that leads to bytes. -/
theorem Own.bytes {w : World} {base : Nat} {v : Value} {l : List Nat} (h : Own w base v l) (hl : ∀ x ∈ l, x < 256) :
    ∃ A cap, v = .slice A l.length cap ∧ Bytes w w.heap.size A l ∧ l.length ≤ cap ∧ (A = none → cap = 0) := by
  have hlt := h.lt
  rcases h.2 with ⟨rfl, h0⟩ | ⟨g, cap, cur, rfl, h1, h2, h3, h4, h5⟩
  · refine ⟨none, 0, by rw [h0], ⟨hl, fun h => by omega⟩, by omega, fun _ => rfl⟩
  · refine ⟨some ⟨g, 0, none⟩, cap, rfl, ⟨hl, fun _ => ⟨g, 0, rfl, hlt g rfl, fun j hj => ?_⟩⟩, h3, fun h => by cases h⟩
    have hc := World.ownsRow.cellAt h j (by omega)
    rw [Nat.zero_add, hc]
    simp [bv, hj]
theorem bv_oneCell (l : List Nat) : ∀ u ∈ l.map bv, u.oneCell' = true := by
  intro u hu
  obtain ⟨x, _, rfl⟩ := List.mem_map.1 hu
  rfl
theorem below_own {w w' : World} {base : Nat} {v : Value} {l : List Nat} (h : Own w base v l) (hb : base ≤ w.heap.size) (hg : w.grownBy w' v.ownBlock) : Below base w w' :=
  (Below.refl _ _).grown hg hb (fun k hk => (World.ownsRow.lt h k hk).1)
section
variable {w : World} {ops : Array Oper} {rest : List Oper} {o : Oper} {a : Act} {Q : Exit → Act → World → Prop}
set_option maxRecDepth 100000 in
/-- 'append(s, x...)': s is owned, x leads to bytes (or is nil). -/
theorem app_bytes (hgd : o.guard = none) (s x : Operand) (ho : o.op = .call { callee := .builtin .append, args := #[s, x], argTypes := #[22, 22] })
    (base : Nat) (v : Value) (l : List Nat) (hs : a.eval s = v) (hown : Own w base v l) (A : Option Addr) (l' : List Nat) (c B : Nat) (hx : a.eval x = .slice A l'.length c) (hr : Bytes w B A l') (hc : A = none → c = 0)
    (hlen : l.length + l'.length ≤ 140737488355328) (hbase : base ≤ w.heap.size)
    (h : ∀ v' w', Own w' base v' (l ++ l') → Below base w w' → wpList Tryd.prog ops Q rest (a.put o.dst v') w') : wpList Tryd.prog ops Q (o :: rest) a w := by
  obtain ⟨i0, hi0, hz0, hz1, hz2⟩ := info_parts u8_info
  cases A with
  | none =>
    have hl0 : l' = [] := by
      rcases Nat.eq_zero_or_pos l'.length with h0 | h0
      · exact List.eq_nil_of_length_eq_zero h0
      · obtain ⟨b, off, he, _⟩ := hr.2 h0
        cases he
    subst hl0
    have hc0 := hc rfl
    subst hc0
    exact wpList_append_own_none hgd s x _ ho base 5 i0 1 Tryd.underlying22 hi0 v l.length (l.map bv) hs hown hx (h v w (by rw [List.append_nil]; exact hown) (Below.refl _ _))
  | some ad =>
    refine wpList_append_own_at w hgd s x _ ho base 5 i0 (.int .u8 0) 1 1 Tryd.underlying22 hi0 hz0 hz1 hz2 rfl (by omega) v l.length (l.map bv) hs hown ad l'.length c (l'.map bv) hx (by simp) ?_ (bv_oneCell l') (by simp only [maxLen]; omega) (by omega) hbase ?_
    · intro j u hu
      have hj : j < l'.length := by
        rcases Nat.lt_or_ge j l'.length with hj | hj
        · exact hj
        · rw [List.getElem?_eq_none (by simpa using hj)] at hu; cases hu
      obtain ⟨b, off, he, _, hcell⟩ := hr.2 (by omega)
      injection he with he
      subst he
      have := hcell j hj
      rw [List.getElem?_map, List.getElem?_eq_getElem hj] at hu
      simp at hu
      subst hu
      by_cases h0 : j = 0
      · subst h0; simpa [Addr.add, bv] using this
      · simpa [Addr.add, h0, bv] using this
    · intro v' w' h1 h2 _ _
      refine h v' w' ?_ (below_own hown hbase h2)
      unfold Own
      rw [List.length_append, List.map_append]
      exact h1
set_option maxRecDepth 100000 in
/-- The same at an operation that a guard lets by, the source not nil, the new value told as a slice. -/
theorem app_guarded (hwant : Region.wanted o (yielded ops a.tmps) = true) (s x : Operand) (ho : o.op = .call { callee := .builtin .append, args := #[s, x], argTypes := #[22, 22] })
    (base : Nat) (v : Value) (l : List Nat) (hs : a.eval s = v) (hown : Own w base v l) (hb : ∀ y ∈ l, y < 256) (A : Option Addr) (l' : List Nat) (m c B k : Nat) (hm : l'.length = m) (hx : a.eval x = .slice A m c) (hr : Bytes w B A l') (h0 : 0 < m)
    (hk : (l ++ l').length = k) (hlen : k ≤ 140737488355328) (hbase : base ≤ w.heap.size)
    (h : ∀ A' c' w', Own w' base (.slice A' k c') (l ++ l') → Bytes w' w'.heap.size A' (l ++ l') → k ≤ c' → (A' = none → c' = 0) → Below base w w' → wpList Tryd.prog ops Q rest (a.put o.dst (.slice A' k c')) w') : wpList Tryd.prog ops Q (o :: rest) a w := by
  obtain ⟨i0, hi0, hz0, hz1, hz2⟩ := info_parts u8_info
  subst hm
  have hlen' : l.length + l'.length ≤ 140737488355328 := by simp at hk; omega
  obtain ⟨b, off, rfl, _, hcell⟩ := hr.2 h0
  refine wpList_step fun K hK => ?_
  rw [if_pos hwant]
  refine wp_append_own w s x _ ho base 5 i0 (.int .u8 0) 1 1 Tryd.underlying22 hi0 hz0 hz1 hz2 rfl (by omega) v l.length (l.map bv) hs hown ⟨b, off, none⟩ l'.length c (l'.map bv) hx (by simp) ?_ (bv_oneCell l') (by simp only [maxLen]; omega) (by omega) hbase ?_
  · intro j u hu
    have hj : j < l'.length := by
      rcases Nat.lt_or_ge j l'.length with hj | hj
      · exact hj
      · rw [List.getElem?_eq_none (by simpa using hj)] at hu; cases hu
    have := hcell j hj
    rw [List.getElem?_map, List.getElem?_eq_getElem hj] at hu
    simp at hu
    subst hu
    by_cases h0 : j = 0
    · subst h0; simpa [Addr.add, bv] using this
    · simpa [Addr.add, h0, bv] using this
  · intro v' w' h1 h2 _
    have ho' : Own w' base v' (l ++ l') := by
      unfold Own
      rw [List.length_append, List.map_append]
      exact h1
    subst hk
    obtain ⟨A', c', hv, h3, h4, h5⟩ := ho'.bytes (fun y hy => (List.mem_append.1 hy).elim (hb y) (hr.1 y))
    subst hv
    exact hK _ _ (h A' c' w' ho' h3 h4 h5 (below_own hown hbase h2))
set_option maxRecDepth 100000 in
/-- The same, the new value told as a slice. -/
theorem app_slice (hgd : o.guard = none) (s x : Operand) (ho : o.op = .call { callee := .builtin .append, args := #[s, x], argTypes := #[22, 22] })
    (base : Nat) (v : Value) (l : List Nat) (hs : a.eval s = v) (hown : Own w base v l) (hb : ∀ y ∈ l, y < 256) (A : Option Addr) (l' : List Nat) (m c B k : Nat) (hm : l'.length = m) (hx : a.eval x = .slice A m c) (hr : Bytes w B A l') (hc : A = none → c = 0)
    (hk : (l ++ l').length = k) (hlen : k ≤ 140737488355328) (hbase : base ≤ w.heap.size)
    (h : ∀ A' c' w', Own w' base (.slice A' k c') (l ++ l') → Bytes w' w'.heap.size A' (l ++ l') → k ≤ c' → (A' = none → c' = 0) → Below base w w' → wpList Tryd.prog ops Q rest (a.put o.dst (.slice A' k c')) w') : wpList Tryd.prog ops Q (o :: rest) a w := by
  subst hm
  refine app_bytes hgd s x ho base v l hs hown A l' c B hx hr hc (by simp at hk; omega) hbase ?_
  intro v' w' h1 h2
  subst hk
  obtain ⟨A', c', hv, h3, h4, h5⟩ := h1.bytes (fun y hy => (List.mem_append.1 hy).elim (hb y) (hr.1 y))
  subst hv
  exact h A' c' w' h1 h3 h4 h5 h2
end
theorem bytes_one (w : World) (x : Nat) (hx : x < 256) (t : TypeId) : Bytes (w.alloc (.cells #[.int .u8 (x : Int)] t)) (w.heap.size + 1) (some ⟨w.heap.size, 0, none⟩) [x] := by
  refine ⟨by simpa using hx, fun _ => ⟨w.heap.size, 0, rfl, by omega, fun j hj => ?_⟩⟩
  have h0 : j = 0 := by simpa using hj
  subst h0
  simp
/-- A call returns a slice that owns the bytes l, and changes nothing that was there. -/
def Gives (w : World) (l : List Nat) (e : Ending) (w' : World) : Prop := ∃ v, e = .returned v ∧ Own w' w.heap.size v l ∧ Below w.heap.size w w'
/-- The same, told as a slice: where it leads to, how long it is. -/
def GivesB (w : World) (l : List Nat) (k : Nat) (e : Ending) (w' : World) : Prop :=
  ∃ A c, e = .returned (.slice A k c) ∧ Own w' w.heap.size (.slice A k c) l ∧ Bytes w' w'.heap.size A l ∧ (A = none → c = 0) ∧ k ≤ c ∧ Below w.heap.size w w'
theorem gives_b {P : Program} {f : FuncId} {args : Array Value} {w : World} {l : List Nat} {k : Nat} (h : Calls P f args w (Gives w l)) (hl : ∀ x ∈ l, x < 256) (hk : l.length = k) : Calls P f args w (GivesB w l k) := by
  refine h.mono ?_
  rintro e w' ⟨v, rfl, hown, hbel⟩
  subst hk
  obtain ⟨A, c, rfl, hb, hc, h0⟩ := hown.bytes hl
  exact ⟨A, c, rfl, hown, hb, h0, hc, hbel⟩
theorem bytes_nil (w : World) : Bytes w w.heap.size none [] := ⟨by simp, by simp⟩
end Go.Proofs.YtelcoeeijkainaaDoor.Leb
