/-
  Bytes that a call lays behind a constant text's: the text's slice is full (its row bears the run-time's mark), then the slice is the call's own; append onto either. Conditions as each lemma says.
-/
import Derived.Test.YtelcoeeijkainaaDoorSecHead
import Derived.Test.YtelcoeeijkainaaDoorLebPut
import Derived.ArgAppend
import Derived.Lib.SlBytesConst
import Derived.Lib.SmallJoins
namespace Go.Proofs.YtelcoeeijkainaaDoor.Sec
open Go.RowKit Leb

/-- Owned, or full and leading to bytes in a block from 'base' on. -/
def OwnH (w : World) (base : Nat) (v : Value) (l : List Nat) : Prop :=
  Own w base v l ∨ ∃ g, v = .slice (some ⟨g, 0, none⟩) l.length l.length ∧ base ≤ g ∧ Bytes w w.heap.size (some ⟨g, 0, none⟩) l ∧ 0 < l.length
theorem OwnH.slc {w : World} {base : Nat} {v : Value} {l : List Nat} (h : OwnH w base v l) (hl : ∀ x ∈ l, x < 256) : ∃ A c, v = .slice A l.length c ∧ Slc w w.heap.size A c l := by
  rcases h with h | ⟨g, rfl, _, hb, _⟩
  · obtain ⟨A, c, e, h1, h2, h3⟩ := h.bytes hl
    exact ⟨A, c, e, h1, h3, h2⟩
  · exact ⟨_, _, rfl, hb, (fun h => by cases h), Nat.le_refl _⟩
theorem head_bytes (w : World) (t : TypeId) : Bytes (w.alloc (.cells #[.int .u8 0, .int .u8 97, .int .u8 115, .int .u8 109, .int .u8 1, .int .u8 0, .int .u8 0, .int .u8 0] t (8, 9))) (w.heap.size + 1) (some ⟨w.heap.size, 0, none⟩) headB := by
  refine ⟨by decide, fun _ => ⟨w.heap.size, 0, rfl, by omega, fun j hj => ?_⟩⟩
  rw [Nat.zero_add, World.cell?_alloc_mark]
  have h8 : j < 8 := hj
  match j, h8 with
  | 0, _ | 1, _ | 2, _ | 3, _ | 4, _ | 5, _ | 6, _ | 7, _ => rfl
theorem head_h (w : World) (t : TypeId) : OwnH (w.alloc (.cells #[.int .u8 0, .int .u8 97, .int .u8 115, .int .u8 109, .int .u8 1, .int .u8 0, .int .u8 0, .int .u8 0] t (8, 9))) w.heap.size (.slice (some ⟨w.heap.size, 0, none⟩) 8 8) headB :=
  .inr ⟨w.heap.size, rfl, Nat.le_refl _, by have := head_bytes w t; simpa using this, by decide⟩
theorem own_from {w : World} {base base' : Nat} {v : Value} {l : List Nat} (h : Own w base v l) (hb : base' ≤ base) : Own w base' v l := by
  refine ⟨h.1, ?_⟩
  rcases h.2 with ⟨rfl, h0⟩ | ⟨g, cap, cur, rfl, h1, h2, h3, h4, h5⟩
  · exact .inl ⟨rfl, h0⟩
  · exact .inr ⟨g, cap, cur, rfl, Nat.le_trans hb h1, h2, h3, h4, h5⟩
theorem OwnH.from {w : World} {base base' : Nat} {v : Value} {l : List Nat} (h : OwnH w base v l) (hb : base' ≤ base) : OwnH w base' v l := by
  rcases h with h | ⟨g, e, h1, h2, h3⟩
  · exact .inl (own_from h hb)
  · exact .inr ⟨g, e, Nat.le_trans hb h1, h2, h3⟩
theorem ownH_keep {w w' : World} {base : Nat} {v : Value} {l : List Nat} (h : OwnH w base v l) (hb : Below w.heap.size w w') : OwnH w' base v l := by
  rcases h with h | ⟨g, e, h1, h2, h3⟩
  · exact .inl (h.keep hb h.lt)
  · exact .inr ⟨g, e, h1, (h2.below hb).more hb.size, h3⟩
section
variable {w : World} {ops : Array Oper} {rest : List Oper} {o : Oper} {a : Act} {Q : Exit → Act → World → Prop}
set_option maxRecDepth 100000 in
theorem app_h (hgd : o.guard = none) (s x : Operand) (ho : o.op = .call { callee := .builtin .append, args := #[s, x], argTypes := #[22, 22] })
    (base : Nat) (v : Value) (l : List Nat) (hs : a.eval s = v) (hown : OwnH w base v l) (hb : ∀ y ∈ l, y < 256) (A : Option Addr) (l' : List Nat) (m c B k : Nat) (hm : l'.length = m) (hx : a.eval x = .slice A m c) (hr : Bytes w B A l') (h0 : 0 < m) (hc : A = none → c = 0)
    (hk : (l ++ l').length = k) (hlen : k ≤ 140737488355328) (hbase : base ≤ w.heap.size)
    (h : ∀ A' c' w', Own w' base (.slice A' k c') (l ++ l') → Bytes w' w'.heap.size A' (l ++ l') → k ≤ c' → (A' = none → c' = 0) → Below base w w' → wpList Tryd.prog ops Q rest (a.put o.dst (.slice A' k c')) w') : wpList Tryd.prog ops Q (o :: rest) a w := by
  rcases hown with hown | ⟨g, rfl, hbg, hby, hpos⟩
  · exact app_slice hgd s x ho base v l hs hown hb A l' m c B k hm hx hr hc hk hlen hbase h
  · obtain ⟨i0, hi0, hz0, hz1, hz2⟩ := info_parts u8_info
    subst hm
    obtain ⟨b, off, rfl, _, hcell⟩ := hr.2 h0
    have hcells : ∀ {ad : Addr} {q : List Nat} {B : Nat}, Bytes w B (some ad) q → ∀ j u, (q.map bv)[j]? = some u → w.cell? (ad.add j) = some u := by
      intro ad q B hq j u hu
      have hj : j < q.length := by
        rcases Nat.lt_or_ge j q.length with hj | hj
        · exact hj
        · rw [List.getElem?_eq_none (by simpa using hj)] at hu; cases hu
      obtain ⟨b, off, he, _, hcell⟩ := hq.2 (by omega)
      injection he with he
      subst he
      have := hcell j hj
      rw [List.getElem?_map, List.getElem?_eq_getElem hj] at hu
      simp at hu
      subst hu
      by_cases h0 : j = 0
      · subst h0; simpa [Addr.add, bv] using this
      · simpa [Addr.add, h0, bv] using this
    have hlen' : l.length + l'.length ≤ 140737488355328 := by simp at hk; omega
    refine wpList_append_grows w hgd s x _ ho 5 i0 (.int .u8 0) 1 1 Tryd.underlying22 hi0 hz0 hz1 hz2 rfl (by omega) (some ⟨g, 0, none⟩) l.length l.length (l.map bv) hs (fun h => by cases h) (by simp) (fun b hb2 => by injection hb2 with hb2; subst hb2; exact hcells hby) ⟨b, off, none⟩ l'.length c (l'.map bv) hx (by simp) (hcells hr) (bv_oneCell l') (by omega) (by simp only [maxLen]; omega) (by omega) ?_
    intro v' w' h1 h2
    have ho' : Own w' base v' (l ++ l') := by
      unfold Own
      rw [List.length_append, List.map_append]
      exact Joins.ownsRow_le h1 hbase
    obtain ⟨A', c', hv, h3, h4, h5⟩ := ho'.bytes (fun y hy => (List.mem_append.1 hy).elim (hb y) (hr.1 y))
    subst hk hv
    exact h A' c' w' ho' h3 h4 h5 ((Below.refl _ _).grown h2 hbase (by simp))
end
end Go.Proofs.YtelcoeeijkainaaDoor.Sec
