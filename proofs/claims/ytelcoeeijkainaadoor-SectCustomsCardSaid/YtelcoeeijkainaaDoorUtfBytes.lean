/-
  trammelref02.Bytes, and append of a text onto owned bytes: what each comes to. Condition: the text has at most 2^40 bytes.
-/
import Derived.Test.YtelcoeeijkainaaDoorUtfValid
import Derived.Test.YtelcoeeijkainaaDoorLebRefPut
import Derived.Lib.AppendStr
namespace Go.Proofs.YtelcoeeijkainaaDoor.Utf
open Go.RowKit Go.Proofs.YtelcoeeijkainaaDoor.Leb

theorem str_cells (s : ByteArray) : Lib.strCells s = (bl s).map bv := by
  unfold Lib.strCells bl
  rw [List.map_map]
  rfl
section
variable {w : World} {ops : Array Oper} {rest : List Oper} {o : Oper} {a : Act} {Q : Exit → Act → World → Prop}
/-- 'append(x, s...)': x is owned, s a text; the new value told as a slice. -/
theorem app_str (hgd : o.guard = none) (sl x : Operand) (ho : o.op = .call { callee := .builtin .append, args := #[sl, x], argTypes := #[22, 9] })
    (base : Nat) (v : Value) (l : List Nat) (hs : a.eval sl = v) (hown : Own w base v l) (hb : ∀ y ∈ l, y < 256) (s : ByteArray) (k : Nat) (hx : a.eval x = .string s)
    (hk : (l ++ bl s).length = k) (hlen : k ≤ 140737488355328) (hbase : base ≤ w.heap.size)
    (h : ∀ A' c' w', Own w' base (.slice A' k c') (l ++ bl s) → Bytes w' w'.heap.size A' (l ++ bl s) → k ≤ c' → (A' = none → c' = 0) → Below base w w' → wpList Tryd.prog ops Q rest (a.put o.dst (.slice A' k c')) w') : wpList Tryd.prog ops Q (o :: rest) a w := by
  obtain ⟨i0, hi0, hz0, hz1, hz2⟩ := info_parts u8_info
  have hle : l.length + s.size = k := by rw [← hk, List.length_append, bl_len]
  refine Lib.wpList_append_own_string w hgd sl x _ _ ho base 5 i0 Tryd.underlying22 Tryd.underlying9 hi0 hz0 hz1 hz2 v l.length (l.map bv) hs hown s hx (by simp only [maxLen]; omega) (by omega) hbase ?_
  intro v' w' h1 h2 _
  have ho' : Own w' base v' (l ++ bl s) := by
    unfold Own
    rw [List.length_append, List.map_append, bl_len, ← str_cells]
    exact h1
  subst hk
  obtain ⟨A', c', hv, h3, h4, h5⟩ := ho'.bytes (fun y hy => (List.mem_append.1 hy).elim (hb y) (bl_byte s y))
  subst hv
  exact h A' c' w' ho' h3 h4 h5 (below_own hown hbase h2)
end
end Go.Proofs.YtelcoeeijkainaaDoor.Utf
