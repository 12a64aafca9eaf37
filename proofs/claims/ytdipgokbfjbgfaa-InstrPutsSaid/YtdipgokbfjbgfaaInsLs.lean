/-
  InsLs: A list of instructions that a call makes, each with labels of its own: what stays apart; append of ints. Conditions as each lemma says; nothing of the program but its types.
-/
import Derived.Test.YtdipgokbfjbgfaaInsOwn
import Derived.Test.YtdipgokbfjbgfaaTypAll
namespace Go.Proofs.Ytdipgokbfjbgfaa.Ins
open Go.RowKit Leb Typ

/-- What two values own is apart. -/
def Apart (v v' : Value) : Prop := ∀ b, v.ownBlock = some b → v'.ownBlock ≠ some b
def slV (e : Ent) : Value := .slice e.2.1 e.1.l.length e.2.2
theorem rowSame {w w' : World} {base e size n : Nat} {v : Value} {xs : List Value} (h : w.ownsRow base e size v n xs) (hb : ∀ b, v.ownBlock = some b → w'.heap[b]? = w.heap[b]?) : w'.ownsRow base e size v n xs := by
  refine ⟨h.1, ?_⟩
  rcases h.2 with ⟨rfl, h0⟩ | ⟨g, cap, cur, rfl, h1, h2, h3, h4, h5⟩
  · exact .inl ⟨rfl, h0⟩
  · exact .inr ⟨g, cap, cur, rfl, h1, (hb g rfl).trans h2, h3, h4, h5⟩
theorem rowFrom {w : World} {base base' e size n : Nat} {v : Value} {xs : List Value} (h : w.ownsRow base e size v n xs) (hb : base' ≤ base) : w.ownsRow base' e size v n xs := by
  refine ⟨h.1, ?_⟩
  rcases h.2 with ⟨rfl, h0⟩ | ⟨g, cap, cur, rfl, h1, h2, h3, h4, h5⟩
  · exact .inl ⟨rfl, h0⟩
  · exact .inr ⟨g, cap, cur, rfl, Nat.le_trans hb h1, h2, h3, h4, h5⟩
theorem apart_new {W : World} {base e size n : Nat} {v v' : Value} {xs : List Value} (h : W.ownsRow base e size v n xs) (hn : ∀ b, v'.ownBlock = some b → W.heap.size ≤ b) : Apart v v' ∧ Apart v' v := by
  refine ⟨fun b hb e => ?_, fun b hb e => ?_⟩
  · have := (World.ownsRow.lt h b hb).2; have := hn b e; omega
  · have := (World.ownsRow.lt h b e).2; have := hn b hb; omega
theorem apart_next {W : World} {base e size n : Nat} {u v v' : Value} {xs : List Value} (h : Apart u v) (hu : W.ownsRow base e size u n xs) (hv : v'.ownBlock = v.ownBlock ∨ v'.ownBlock = some W.heap.size) : Apart u v' := by
  rcases hv with e | e
  · intro b hb; rw [e]; exact h b hb
  · refine (apart_new hu fun b hb => ?_).1
    rw [e] at hb
    injection hb with hb
    omega
/-- The list under way. -/
structure LS (w W : World) (lv : Value) (es : List Ent) : Prop where
  below : Below w.heap.size w W
  own : OwnX W w.heap.size lv es
  labs : ∀ e ∈ es, OwnI W w.heap.size (slV e) e.1.l
  offs : ∀ e ∈ es, Apart (slV e) lv
theorem ls_nil (w : World) : LS w w (.slice none 0 0) [] := ⟨Below.refl _ _, OwnX.nil _ _, by simp, by simp⟩
theorem LS.keep {w W W' : World} {lv : Value} {es : List Ent} (h : LS w W lv es) (hb : Below W.heap.size W W') : LS w W' lv es :=
  ⟨h.below.trans (hb.mono h.below.size), rowSame h.own fun b e => hb.block b (World.ownsRow.lt h.own b e).2, fun e he => rowSame (h.labs e he) fun b e' => hb.block b (World.ownsRow.lt (h.labs e he) b e').2, h.offs⟩
theorem LS.more {w W W' : World} {lv : Value} {es : List Ent} (h : LS w W lv es) {e : Ent} {A' : Option Addr} {m c' : Nat} (hbe : OwnI W w.heap.size (slV e) e.1.l) (hev : Apart (slV e) lv) (ho : OwnX W' w.heap.size (.slice A' m c') (es ++ [e])) (hg : W.grownBy W' lv.ownBlock) (hb' : (Value.slice A' m c').ownBlock = lv.ownBlock ∨ (Value.slice A' m c').ownBlock = some W.heap.size) : LS w W' (.slice A' m c') (es ++ [e]) := by
  have hall : ∀ e' ∈ es ++ [e], OwnI W w.heap.size (slV e') e'.1.l ∧ Apart (slV e') lv := by
    intro e' he
    rcases List.mem_append.1 he with he | he
    · exact ⟨h.labs e' he, h.offs e' he⟩
    · rw [List.mem_singleton.1 he]; exact ⟨hbe, hev⟩
  exact ⟨h.below.grown hg h.below.size (fun i hi => (World.ownsRow.lt h.own i hi).1), ho, fun e' he => rowSame (hall e' he).1 fun b e2 => hg.block b (World.ownsRow.lt (hall e' he).1 b e2).2 (fun e3 => (hall e' he).2 b e2 e3.symm), fun e' he => apart_next (hall e' he).2 (hall e' he).1 hb'⟩
theorem LS.sli {w W : World} {lv : Value} {es : List Ent} (h : LS w W lv es) : ∃ A c, lv = .slice A es.length c ∧ Sli W A c (es.map fun e => e.1) := by
  obtain ⟨A, c, rfl, h1, h2, h3⟩ := h.own.row
  refine ⟨A, c, rfl, inss_of h1 fun e he => ?_, h3, by simpa using h2⟩
  obtain ⟨A', c', e1, h4, h5, h6⟩ := (h.labs e he).ints
  simp only [slV, Value.slice.injEq] at e1
  obtain ⟨e2, _, e3⟩ := e1
  exact ⟨by rw [e2]; exact h4, by rw [e3]; exact h5, by rw [e2, e3]; exact h6⟩
set_option maxRecDepth 100000 in
theorem app_insG {w : World} {ops : Array Oper} {rest : List Oper} {o : Oper} {a : Act} {Q : Exit → Act → World → Prop} (hgd : o.guard = none) (s x : Operand) (ho : o.op = .call { callee := .builtin .append, args := #[s, x], argTypes := #[26, 26] })
    (base : Nat) (v : Value) (es : List Ent) (hs : a.eval s = v) (hown : OwnX w base v es) (b off : Nat) (es' : List Ent) (m c B k : Nat) (hm : es'.length = m) (hx : a.eval x = .slice (some ⟨b, off, none⟩) m c) (hr : RowE w B (some ⟨b, off, none⟩) es')
    (hk : (es ++ es').length = k) (hlen : k ≤ 1000000) (hbase : base ≤ w.heap.size)
    (h : ∀ A' c' w', OwnX w' base (.slice A' k c') (es ++ es') → w.grownBy w' v.ownBlock → ((Value.slice A' k c').ownBlock = v.ownBlock ∨ (Value.slice A' k c').ownBlock = some w.heap.size) → wpList Try.prog ops Q rest (a.put o.dst (.slice A' k c')) w') : wpList Try.prog ops Q (o :: rest) a w := by
  obtain ⟨i0, hi0, hz0, hz1, hz2⟩ := info_parts ins_info
  subst hm hk
  simp only [List.length_append] at hlen
  refine wpList_append_own_at w hgd s x _ ho base 25 i0 _ 5 56 Try.underlying26 hi0 hz0 hz1 hz2 rfl (by omega) v es.length (els es) hs hown ⟨b, off, none⟩ es'.length c (els es') hx (els_len es') (ents_cells hr) (els_one es') (by simp only [maxLen]; omega) (by omega) hbase ?_
  intro v' w' h1 h2 _ h4
  have ho' : OwnX w' base v' (es ++ es') := by
    unfold OwnX
    rw [List.length_append, els_app]
    exact h1
  obtain ⟨A', c', rfl, _, _, _⟩ := ho'.row
  exact h A' c' w' ho' h2 h4
theorem int_none (w : World) : OwnI (w.alloc (.cells #[] 3)) w.heap.size (.slice (some ⟨w.heap.size, 0, none⟩) 0 0) [] :=
  World.ownsRow_lit w #[] 0 (Nat.le_refl _) (by simp [maxLen]) rfl
set_option maxRecDepth 100000 in
/-- 'append(s, x...)': s is owned, x leads to ints. -/
theorem app_ints {w : World} {ops : Array Oper} {rest : List Oper} {o : Oper} {a : Act} {Q : Exit → Act → World → Prop} (hgd : o.guard = none) (s x : Operand) (ho : o.op = .call { callee := .builtin .append, args := #[s, x], argTypes := #[23, 23] })
    (base : Nat) (v : Value) (l : List Int) (hs : a.eval s = v) (hown : OwnI w base v l) (A : Option Addr) (l' : List Int) (n c B k : Nat) (hn : l'.length = n) (hx : a.eval x = .slice A n c) (hr : Ints w B A l') (hc : A = none → c = 0)
    (hk : (l ++ l').length = k) (hlen : k ≤ 1000000) (hbase : base ≤ w.heap.size)
    (h : ∀ A' c' w', OwnI w' base (.slice A' k c') (l ++ l') → Below base w w' → wpList Try.prog ops Q rest (a.put o.dst (.slice A' k c')) w') : wpList Try.prog ops Q (o :: rest) a w := by
  obtain ⟨i0, hi0, hz0, hz1, hz2⟩ := info_parts int_info
  subst hn hk
  simp only [List.length_append] at hlen
  have fin : ∀ v' w', OwnI w' base v' (l ++ l') → Below base w w' → wpList Try.prog ops Q rest (a.put o.dst v') w' := fun v' w' h1 h2 => by
    obtain ⟨A', c', rfl, _, _, _⟩ := h1.ints
    exact h A' c' w' h1 h2
  cases A with
  | none =>
    have hl0 : l' = [] := by
      rcases Nat.eq_zero_or_pos l'.length with h0 | h0
      · exact List.eq_nil_of_length_eq_zero h0
      · obtain ⟨b, off, he, _⟩ := hr h0
        cases he
    subst hl0
    have hc0 := hc rfl
    subst hc0
    exact wpList_append_own_none hgd s x _ ho base 3 i0 1 Try.underlying23 hi0 v l.length (l.map iv) hs hown hx (fin v w (by rw [List.append_nil]; exact hown) (Below.refl _ _))
  | some ad =>
    refine wpList_append_own_at w hgd s x _ ho base 3 i0 (.int .i64 0) 1 8 Try.underlying23 hi0 hz0 hz1 hz2 rfl (by omega) v l.length (l.map iv) hs hown ad l'.length c (l'.map iv) hx (by simp) ?_ ?_ (by simp only [maxLen]; omega) (by omega) hbase ?_
    · intro j u hu
      have hj : j < l'.length := by
        rcases Nat.lt_or_ge j l'.length with hj | hj
        · exact hj
        · rw [List.getElem?_eq_none (by simpa using hj)] at hu; cases hu
      obtain ⟨b, off, he, _, hcell⟩ := hr (by omega)
      injection he with he
      subst he
      have := hcell j hj
      rw [List.getElem?_map, List.getElem?_eq_getElem hj] at hu
      simp at hu
      subst hu
      by_cases h0 : j = 0
      · subst h0; simpa [Addr.add, iv] using this
      · simpa [Addr.add, h0, iv] using this
    · intro u hu
      obtain ⟨y, _, rfl⟩ := List.mem_map.1 hu
      rfl
    · intro v' w' h1 h2 _ _
      refine fin v' w' ?_ (belowI_own hown hbase h2)
      unfold OwnI
      rw [List.length_append, List.map_append]
      exact h1
end Go.Proofs.Ytdipgokbfjbgfaa.Ins
