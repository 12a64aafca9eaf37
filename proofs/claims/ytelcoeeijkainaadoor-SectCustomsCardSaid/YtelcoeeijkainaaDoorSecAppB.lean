/-
  Append of bytes while a block besides stays as it is. Conditions as the lemma says.
-/
import Derived.Test.YtelcoeeijkainaaDoorSecApp
namespace Go.Proofs.YtelcoeeijkainaaDoor.Sec
open Go.RowKit Leb

section
variable {w : World} {ops : Array Oper} {rest : List Oper} {o : Oper} {a : Act} {Q : Exit → Act → World → Prop}
theorem bytes_same {w w' : World} {B b off : Nat} {l : List Nat} (h : Bytes w B (some ⟨b, off, none⟩) l) (hh : w'.heap[b]? = w.heap[b]?) : Bytes w' B (some ⟨b, off, none⟩) l := by
  refine ⟨h.1, fun hl => ?_⟩
  obtain ⟨b', off', e, hb, hc⟩ := h.2 hl
  injection e with e
  injection e with e1 e2 _
  subst e1 e2
  refine ⟨b, off, rfl, hb, fun j hj => ?_⟩
  have h3 : w'.cell? ⟨b, off + j, none⟩ = w.cell? ⟨b, off + j, none⟩ := World.cell?_of_block hh
  exact h3.trans (hc j hj)
theorem by_weak {w w' : World} {o : Option Nat} (h : w.grownBy w' none) : w.grownBy w' o := ⟨h.os, h.tape, h.output, h.size, fun k hk _ => h.block k hk (by simp)⟩
set_option maxRecDepth 100000 in
theorem app_hb (hgd : o.guard = none) (s x : Operand) (ho : o.op = .call { callee := .builtin .append, args := #[s, x], argTypes := #[22, 22] })
    (base : Nat) (v : Value) (l : List Nat) (hs : a.eval s = v) (hown : OwnH w base v l) (hb : ∀ y ∈ l, y < 256) (A : Option Addr) (l' : List Nat) (m c B k : Nat) (hm : l'.length = m) (hx : a.eval x = .slice A m c) (hr : Bytes w B A l') (hc : A = none → c = 0) (h0 : 0 < m ∨ Own w base v l)
    (hk : (l ++ l').length = k) (hlen : k ≤ 140737488355328) (hbase : base ≤ w.heap.size) (bs : List Nat) (hoff : ∀ b ∈ bs, b < w.heap.size ∧ v.ownBlock ≠ some b)
    (h : ∀ A' c' w', Own w' base (.slice A' k c') (l ++ l') → (∀ b ∈ bs, b < w'.heap.size ∧ (Value.slice A' k c').ownBlock ≠ some b) → (∀ b ∈ bs, w'.heap[b]? = w.heap[b]?) → Below base w w' → w.heap.size ≤ w'.heap.size → wpList Tryd.prog ops Q rest (a.put o.dst (.slice A' k c')) w') : wpList Tryd.prog ops Q (o :: rest) a w := by
  obtain ⟨i0, hi0, hz0, hz1, hz2⟩ := info_parts u8_info
  have hlen' : l.length + l'.length ≤ 140737488355328 := by simp at hk; omega
  have hmem : Bytes w B A l' → ∀ y ∈ l ++ l', y < 256 := fun hr y hy => (List.mem_append.1 hy).elim (hb y) (hr.1 y)
  have fin : ∀ v' w', Own w' base v' (l ++ l') → w.grownBy w' v.ownBlock → (v'.ownBlock = v.ownBlock ∨ ∀ b, v'.ownBlock = some b → w.heap.size ≤ b) → Below base w w' → wpList Tryd.prog ops Q rest (a.put o.dst v') w' := fun v' w' h1 h2 h3 h4 => by
    obtain ⟨A', c', hv, _, _, _⟩ := h1.bytes (hmem hr)
    subst hk hv
    refine h A' c' w' h1 (fun b hb => ⟨Nat.lt_of_lt_of_le (hoff b hb).1 h2.size, ?_⟩) (fun b hb => h2.block b (hoff b hb).1 (fun e => (hoff b hb).2 e.symm)) h4 h2.size
    have hlt := (hoff b hb).1
    rcases h3 with h3 | h3
    · rw [h3]; exact (hoff b hb).2
    · intro e; have := h3 b e; omega
  have hcells : ∀ {ad : Addr} {q : List Nat} {B : Nat}, Bytes w B (some ad) q → ∀ j u, (q.map bv)[j]? = some u → w.cell? (ad.add j) = some u := by
    intro ad q B hq j u hu
    have hj : j < q.length := by
      rcases Nat.lt_or_ge j q.length with hj | hj
      · exact hj
      · rw [List.getElem?_eq_none (by simpa using hj)] at hu; cases hu
    obtain ⟨b, off, he, _, hcell⟩ := hq.2 (by omega)
    injection he with he
    subst he
    have := hcell j hj
    rw [List.getElem?_map, List.getElem?_eq_getElem hj] at hu
    simp at hu
    subst hu
    by_cases h0 : j = 0
    · subst h0; simpa [Addr.add, bv] using this
    · simpa [Addr.add, h0, bv] using this
  have ownCase : Own w base v l → wpList Tryd.prog ops Q (o :: rest) a w := fun hown => by
    subst hm
    cases A with
    | none =>
      have hl0 : l' = [] := by
        rcases Nat.eq_zero_or_pos l'.length with h0 | h0
        · exact List.eq_nil_of_length_eq_zero h0
        · obtain ⟨b, off, he, _⟩ := hr.2 h0
          cases he
      subst hl0
      have hc0 := hc rfl
      subst hc0
      exact wpList_append_own_none hgd s x _ ho base 5 i0 1 Tryd.underlying22 hi0 v l.length (l.map bv) hs hown hx (fin v w (by rw [List.append_nil]; exact hown) ⟨rfl, rfl, rfl, Nat.le_refl _, fun _ _ _ => rfl⟩ (.inl rfl) (Below.refl _ _))
    | some ad =>
      refine wpList_append_own_at w hgd s x _ ho base 5 i0 (.int .u8 0) 1 1 Tryd.underlying22 hi0 hz0 hz1 hz2 rfl (by omega) v l.length (l.map bv) hs hown ad l'.length c (l'.map bv) hx (by simp) (hcells hr) (bv_oneCell l') (by simp only [maxLen]; omega) (by omega) hbase ?_
      intro v' w' h1 h2 _ h4
      refine fin v' w' ?_ h2 (h4.imp id fun e b hb => by rw [e] at hb; injection hb with hb; omega) (below_own hown hbase h2)
      unfold Own
      rw [List.length_append, List.map_append]
      exact h1
  rcases h0 with h0 | hown0
  · rcases hown with hown | ⟨g, rfl, hbg, hby, hpos⟩
    · exact ownCase hown
    · subst hm
      obtain ⟨b, off, rfl, _, _⟩ := hr.2 h0
      refine wpList_append_grows w hgd s x _ ho 5 i0 (.int .u8 0) 1 1 Tryd.underlying22 hi0 hz0 hz1 hz2 rfl (by omega) (some ⟨g, 0, none⟩) l.length l.length (l.map bv) hs (fun h => by cases h) (by simp) (fun b hb2 => by injection hb2 with hb2; subst hb2; exact hcells hby) ⟨b, off, none⟩ l'.length c (l'.map bv) hx (by simp) (hcells hr) (bv_oneCell l') (by omega) (by simp only [maxLen]; omega) (by omega) ?_
      intro v' w' h1 h2
      refine fin v' w' ?_ (by_weak h2) (.inr fun b hb => (World.ownsRow.lt h1 b hb).1) ((Below.refl _ _).grown h2 hbase (by simp))
      unfold Own
      rw [List.length_append, List.map_append]
      exact Joins.ownsRow_le h1 hbase
  · exact ownCase hown0
end
end Go.Proofs.YtelcoeeijkainaaDoor.Sec
