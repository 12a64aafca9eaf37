/-
  InsOwn: Instructions that a call made itself: a slice value that owns them; append onto them. Conditions as each lemma says; nothing of the program but its types.
-/
import Derived.Test.YtdipgokbfjbgfaaInsPlain
import Derived.Test.YtdipgokbfjbgfaaTypAll
namespace Go.Proofs.Ytdipgokbfjbgfaa.Ins
open Go.RowKit Leb Typ

/-- An instruction with the place of its labels, and their room; its cells; where its labels are. -/
abbrev Ent : Type := Ins × Option Addr × Nat
def el (e : Ent) : List Value := [.int .i64 e.1.op, .int .i64 e.1.a, .int .i64 e.1.b, .int .i64 e.1.k, .slice e.2.1 e.1.l.length e.2.2]
def lab (w : World) (B : Nat) (e : Ent) : Prop := Ints w B e.2.1 e.1.l ∧ e.1.l.length ≤ e.2.2 ∧ (e.2.1 = none → e.2.2 = 0)
theorem lab.below {w w' : World} {B : Nat} {e : Ent} (h : lab w B e) (hb : Below B w w') : lab w' B e := ⟨h.1.below hb, h.2.1, h.2.2⟩
theorem lab.more {w : World} {B B' : Nat} {e : Ent} (h : lab w B e) (hB : B ≤ B') : lab w B' e := ⟨h.1.more hB, h.2.1, h.2.2⟩
theorem el_len (e : Ent) : (el e).length = 5 := rfl
/-- Their cells, one behind the other. -/
def els (es : List Ent) : List Value := es.flatMap el
theorem els_len (es : List Ent) : (els es).length = es.length * 5 := by
  induction es with
  | nil => rfl
  | cons e es ih => simp only [els, List.flatMap_cons, List.length_append, el_len, List.length_cons] at ih ⊢; omega
theorem els_app (es es' : List Ent) : els (es ++ es') = els es ++ els es' := by simp [els]
theorem els_at (es : List Ent) (j i : Nat) (hj : j < es.length) (hi : i < 5) : (els es)[j * 5 + i]? = some ((el es[j])[i]'(by rw [el_len]; exact hi)) := by
  induction es generalizing j with
  | nil => simp at hj
  | cons e es ih =>
    have e1 : els (e :: es) = el e ++ els es := by simp [els]
    rw [e1]
    cases j with
    | zero =>
      rw [Nat.zero_mul, Nat.zero_add, List.getElem?_append_left (by rw [el_len]; exact hi), List.getElem?_eq_getElem]
      rfl
    | succ j =>
      rw [List.getElem?_append_right (by rw [el_len]; omega), el_len, show (j + 1) * 5 + i - 5 = j * 5 + i from by omega, ih j (by simpa using hj)]
      rfl
theorem el_one (e : Ent) : ∀ u ∈ el e, u.oneCell' = true := by
  intro u hu
  simp only [el, List.mem_cons, List.not_mem_nil, or_false] at hu
  rcases hu with rfl | rfl | rfl | rfl | rfl <;> rfl
theorem els_one (es : List Ent) : ∀ u ∈ els es, u.oneCell' = true := by
  intro u hu
  obtain ⟨e, _, he⟩ := List.mem_flatMap.1 hu
  exact el_one e u he
/-- Cells of instructions in memory. -/
def RowE (w : World) (B : Nat) (A : Option Addr) (es : List Ent) : Prop :=
  0 < es.length → ∃ b off, A = some ⟨b, off, none⟩ ∧ b < B ∧ ∀ (j : Nat) (h : j < es.length) (i : Nat) (hi : i < 5), w.cell? ⟨b, off + j * 5 + i, none⟩ = some ((el es[j])[i]'(by rw [el_len]; exact hi))
theorem RowE.below {w w' : World} {B : Nat} {A : Option Addr} {es : List Ent} (h : RowE w B A es) (hb : Below B w w') : RowE w' B A es := by
  intro hl
  obtain ⟨b, off, e, hB, hc⟩ := h hl
  exact ⟨b, off, e, hB, fun j hj i hi => (hb.cell hB).trans (hc j hj i hi)⟩
theorem RowE.more {w : World} {B B' : Nat} {A : Option Addr} {es : List Ent} (h : RowE w B A es) (hB : B ≤ B') : RowE w B' A es := by
  intro hl
  obtain ⟨b, off, e, hb, hc⟩ := h hl
  exact ⟨b, off, e, by omega, hc⟩
theorem RowE.take {w : World} {B : Nat} {A : Option Addr} {es : List Ent} (h : RowE w B A es) (p : Nat) : RowE w B A (es.take p) := by
  intro hl
  obtain ⟨b, off, e, hB, hc⟩ := h (by simp at hl; omega)
  refine ⟨b, off, e, hB, fun j hj i hi => ?_⟩
  rw [hc j (by simp at hj; omega) i hi]
  simp
theorem RowE.drop {w : World} {B b off : Nat} {es : List Ent} (h : RowE w B (some ⟨b, off, none⟩) es) (p : Nat) : RowE w B (some ⟨b, off + p * 5, none⟩) (es.drop p) := by
  intro hl
  obtain ⟨b', off', e, hB, hc⟩ := h (by simp at hl; omega)
  injection e with e
  injection e with e1 e2 _
  subst e1 e2
  refine ⟨b, off + p * 5, rfl, hB, fun j hj i hi => ?_⟩
  have hj' : p + j < es.length := by simp at hj; omega
  have := hc (p + j) hj' i hi
  rw [show off + p * 5 + j * 5 + i = off + (p + j) * 5 + i from by omega, this]
  simp
theorem at_ents {w : World} {B b off : Nat} (xs : List Ins) (h : ∀ (j : Nat) (h : j < xs.length), InsAt w B b (off + j * 5) xs[j]) :
    ∃ es : List Ent, es.map (fun e => e.1) = xs ∧ (∀ (j : Nat) (h : j < es.length) (i : Nat) (hi : i < 5), w.cell? ⟨b, off + j * 5 + i, none⟩ = some ((el es[j])[i]'(by rw [el_len]; exact hi))) ∧ ∀ e ∈ es, lab w B e := by
  induction xs generalizing off with
  | nil => exact ⟨[], rfl, by simp, by simp⟩
  | cons x xs ih =>
    obtain ⟨es, h1, h2, h3⟩ := ih (off := off + 5) (fun j hj => by
      have := h (j + 1) (by simpa using hj)
      rw [show off + 5 + j * 5 = off + (j + 1) * 5 from by omega]
      simpa using this)
    obtain ⟨A, c, q0, q1, q2, q3, q4, q5, q6, q7⟩ := h 0 (by simp)
    rw [Nat.zero_mul, Nat.add_zero] at q0 q1 q2 q3 q4
    refine ⟨(x, A, c) :: es, by simp [h1], fun j hj i hi => ?_, fun e he => ?_⟩
    · cases j with
      | zero =>
        rw [Nat.zero_mul, Nat.add_zero]
        match i, hi with
        | 0, _ => exact q0
        | 1, _ => exact q1
        | 2, _ => exact q2
        | 3, _ => exact q3
        | 4, _ => exact q4
      | succ j =>
        have := h2 j (by simpa using hj) i hi
        rw [show off + (j + 1) * 5 + i = off + 5 + j * 5 + i from by omega, this]
        rfl
    · rcases List.mem_cons.1 he with rfl | he
      · exact ⟨q5, q6, q7⟩
      · exact h3 e he
theorem Inss.ents {w : World} {B : Nat} {A : Option Addr} {xs : List Ins} (h : Inss w B A xs) : ∃ es : List Ent, es.map (fun e => e.1) = xs ∧ RowE w B A es ∧ ∀ e ∈ es, lab w B e := by
  rcases Nat.eq_zero_or_pos xs.length with h0 | h0
  · have : xs = [] := List.eq_nil_of_length_eq_zero h0
    subst this
    exact ⟨[], rfl, fun h => absurd h (by simp), by simp⟩
  · obtain ⟨b, off, rfl, hB, hc⟩ := h h0
    obtain ⟨es, h1, h2, h3⟩ := at_ents xs hc
    exact ⟨es, h1, fun _ => ⟨b, off, rfl, hB, h2⟩, h3⟩
theorem inss_of {w : World} {B : Nat} {A : Option Addr} {es : List Ent} (h : RowE w B A es) (hl : ∀ e ∈ es, lab w B e) : Inss w B A (es.map fun e => e.1) := by
  intro h0
  obtain ⟨b, off, rfl, hB, hc⟩ := h (by simpa using h0)
  refine ⟨b, off, rfl, hB, fun j hj => ?_⟩
  have hj' : j < es.length := by simpa using hj
  obtain ⟨l1, l2, l3⟩ := hl _ (List.getElem_mem hj')
  have q0 := hc j hj' 0 (by omega)
  have q1 := hc j hj' 1 (by omega)
  have q2 := hc j hj' 2 (by omega)
  have q3 := hc j hj' 3 (by omega)
  have q4 := hc j hj' 4 (by omega)
  rw [List.getElem_map]
  exact ⟨es[j].2.1, es[j].2.2, q0, q1, q2, q3, q4, l1, l2, l3⟩
/-- The slice value v owns the instructions es, in a block from 'base' on. -/
def OwnX (w : World) (base : Nat) (v : Value) (es : List Ent) : Prop := w.ownsRow base 25 5 v es.length (els es)
theorem OwnX.lt {w : World} {base : Nat} {v : Value} {es : List Ent} (h : OwnX w base v es) : ∀ k, v.ownBlock = some k → k < w.heap.size := fun k hk => (World.ownsRow.lt h k hk).2
theorem OwnX.alloc {w : World} {base : Nat} {v : Value} {es : List Ent} (h : OwnX w base v es) (o : Obj) : OwnX (w.alloc o) base v es := World.ownsRow.alloc h o
theorem OwnX.nil (w : World) (base : Nat) : OwnX w base (.slice none 0 0) [] := World.ownsRow_nil _ _ _ _
theorem OwnX.keep {w w' : World} {base B : Nat} {v : Value} {es : List Ent} (h : OwnX w base v es) (hb : Below B w w') (hB : ∀ k, v.ownBlock = some k → k < B) : OwnX w' base v es := by
  refine ⟨h.1, ?_⟩
  rcases h.2 with ⟨rfl, h0⟩ | ⟨g, cap, cur, rfl, h1, h2, h3, h4, h5⟩
  · exact .inl ⟨rfl, h0⟩
  · exact .inr ⟨g, cap, cur, rfl, h1, (hb.block g (hB g rfl)).trans h2, h3, h4, h5⟩
theorem OwnX.row {w : World} {base : Nat} {v : Value} {es : List Ent} (h : OwnX w base v es) :
    ∃ A cap, v = .slice A es.length cap ∧ RowE w w.heap.size A es ∧ es.length ≤ cap ∧ (A = none → cap = 0) := by
  have hlt := h.lt
  rcases h.2 with ⟨rfl, h0⟩ | ⟨g, cap, cur, rfl, h1, h2, h3, h4, h5⟩
  · refine ⟨none, 0, by rw [h0], fun h => by omega, by omega, fun _ => rfl⟩
  · refine ⟨some ⟨g, 0, none⟩, cap, rfl, fun _ => ⟨g, 0, rfl, hlt g rfl, fun j hj i hi => ?_⟩, h3, fun h => by cases h⟩
    have hc := World.ownsRow.cellAt h (j * 5 + i) (by omega)
    rw [show 0 + j * 5 + i = j * 5 + i from by omega, hc, els_at es j i hj hi]
theorem ownX_lit (w : World) (es : List Ent) (vs : Array Value) (n : Nat) (hv : vs = (els es).toArray) (hn : es.length = n) (hm : n ≤ maxLen) : OwnX (w.alloc (.cells vs 25)) w.heap.size (.slice (some ⟨w.heap.size, 0, none⟩) n n) es := by
  subst hv hn
  have := World.ownsRow_lit (e := 25) (size := 5) (base := w.heap.size) w (els es).toArray es.length (Nat.le_refl _) hm (by simp [els_len])
  simpa [OwnX] using this
theorem rowE_lit (w : World) (es : List Ent) (vs : Array Value) (n : Nat) (hv : vs = (els es).toArray) (hn : es.length = n) (hm : n ≤ maxLen) : RowE (w.alloc (.cells vs 25)) (w.heap.size + 1) (some ⟨w.heap.size, 0, none⟩) es := by
  obtain ⟨A, cap, hA, h, _, _⟩ := (ownX_lit w es vs n hv hn hm).row
  injection hA with hA _ _
  subst hA
  simpa using h
theorem ins_info : (Try.prog.info? 25).map (fun i => (i.zero, i.size, i.bytes)) = some (some (.agg #[.int .i64 0, .int .i64 0, .int .i64 0, .int .i64 0, .slice none 0 0]), 5, 56) := by kernel_rfl
theorem belowX_own {w w' : World} {base : Nat} {v : Value} {es : List Ent} (h : OwnX w base v es) (hb : base ≤ w.heap.size) (hg : w.grownBy w' v.ownBlock) : Below base w w' :=
  (Below.refl _ _).grown hg hb (fun k hk => (World.ownsRow.lt h k hk).1)
theorem ents_cells {w : World} {B : Nat} {b off : Nat} {es : List Ent} (h : RowE w B (some ⟨b, off, none⟩) es) : ∀ j u, (els es)[j]? = some u → w.cell? (Addr.add ⟨b, off, none⟩ j) = some u := by
  intro j u hu
  have hj : j < (els es).length := by
    rcases Nat.lt_or_ge j (els es).length with hj | hj
    · exact hj
    · rw [List.getElem?_eq_none hj] at hu; cases hu
  rw [els_len] at hj
  obtain ⟨b', off', e, _, hc⟩ := h (by omega)
  injection e with e
  injection e with e1 e2 _
  subst e1 e2
  have hq := hc (j / 5) (by omega) (j % 5) (Nat.mod_lt _ (by omega))
  rw [show off + j / 5 * 5 + j % 5 = off + j from by omega] at hq
  have hs := els_at es (j / 5) (j % 5) (by omega) (Nat.mod_lt _ (by omega))
  rw [show j / 5 * 5 + j % 5 = j from by omega, hu] at hs
  injection hs with hs
  rw [hs]
  by_cases h0 : j = 0
  · subst h0; simpa [Addr.add] using hq
  · simpa [Addr.add, h0] using hq
section
variable {w : World} {ops : Array Oper} {rest : List Oper} {o : Oper} {a : Act} {Q : Exit → Act → World → Prop}
set_option maxRecDepth 100000 in
/-- 'append(s, x...)': s is owned, x leads to instructions. -/
theorem app_ins (hgd : o.guard = none) (s x : Operand) (ho : o.op = .call { callee := .builtin .append, args := #[s, x], argTypes := #[26, 26] })
    (base : Nat) (v : Value) (es : List Ent) (hs : a.eval s = v) (hown : OwnX w base v es) (b off : Nat) (es' : List Ent) (m c B k : Nat) (hm : es'.length = m) (hx : a.eval x = .slice (some ⟨b, off, none⟩) m c) (hr : RowE w B (some ⟨b, off, none⟩) es')
    (hk : (es ++ es').length = k) (hlen : k ≤ 1000000) (hbase : base ≤ w.heap.size)
    (h : ∀ A' c' w', OwnX w' base (.slice A' k c') (es ++ es') → RowE w' w'.heap.size A' (es ++ es') → k ≤ c' → (A' = none → c' = 0) → Below base w w' → wpList Try.prog ops Q rest (a.put o.dst (.slice A' k c')) w') : wpList Try.prog ops Q (o :: rest) a w := by
  obtain ⟨i0, hi0, hz0, hz1, hz2⟩ := info_parts ins_info
  subst hm hk
  simp only [List.length_append] at hlen
  refine wpList_append_own_at w hgd s x _ ho base 25 i0 _ 5 56 Try.underlying26 hi0 hz0 hz1 hz2 rfl (by omega) v es.length (els es) hs hown ⟨b, off, none⟩ es'.length c (els es') hx (els_len es') (ents_cells hr) (els_one es') (by simp only [maxLen]; omega) (by omega) hbase ?_
  intro v' w' h1 h2 _ _
  have ho' : OwnX w' base v' (es ++ es') := by
    unfold OwnX
    rw [List.length_append, els_app]
    exact h1
  obtain ⟨A', c', rfl, h3, h4, h5⟩ := ho'.row
  exact h A' c' w' ho' h3 h4 h5 (belowX_own hown hbase h2)
end
set_option maxRecDepth 100000 in
/-- The same, as a step of a drawn region. -/
theorem app_ins_step {w : World} {ops : Array Oper} {o : Oper} {a : Act} {K : Act → World → Prop} {Q : Exit → Act → World → Prop} {E : Prop} (hg : o.guard = none) (s x : Operand) (ho : o.op = .call { callee := .builtin .append, args := #[s, x], argTypes := #[26, 26] })
    (base : Nat) (v : Value) (es : List Ent) (hs : a.eval s = v) (hown : OwnX w base v es) (b off : Nat) (es' : List Ent) (m c B k : Nat) (hm : es'.length = m) (hx : a.eval x = .slice (some ⟨b, off, none⟩) m c) (hr : RowE w B (some ⟨b, off, none⟩) es')
    (hk : (es ++ es').length = k) (hlen : k ≤ 1000000) (hbase : base ≤ w.heap.size)
    (h : ∀ A' c' w', OwnX w' base (.slice A' k c') (es ++ es') → RowE w' w'.heap.size A' (es ++ es') → k ≤ c' → (A' = none → c' = 0) → Below base w w' → w.grownBy w' v.ownBlock → K (a.put o.dst (.slice A' k c')) w') :
    if Region.wanted o (yielded ops a.tmps) = true then Oper.wp Try.prog o a w K Q else E := by
  have hw : Region.wanted o (yielded ops a.tmps) = true := by simp [Region.wanted, hg]
  rw [if_pos hw]
  obtain ⟨i0, hi0, hz0, hz1, hz2⟩ := info_parts ins_info
  subst hm hk
  simp only [List.length_append] at hlen
  refine wp_append_own w s x _ ho base 25 i0 _ 5 56 Try.underlying26 hi0 hz0 hz1 hz2 rfl (by omega) v es.length (els es) hs hown ⟨b, off, none⟩ es'.length c (els es') hx (els_len es') (ents_cells hr) (els_one es') (by simp only [maxLen]; omega) (by omega) hbase ?_
  intro v' w' h1 h2 _
  have ho' : OwnX w' base v' (es ++ es') := by
    unfold OwnX
    rw [List.length_append, els_app]
    exact h1
  obtain ⟨A', c', rfl, h3, h4, h5⟩ := ho'.row
  exact h A' c' w' ho' h3 h4 h5 (belowX_own hown hbase h2) h2
end Go.Proofs.Ytdipgokbfjbgfaa.Ins
