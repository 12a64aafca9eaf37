/-
  Sections that a call made itself: a slice value that owns their cells; a list under way, whose sections' bytes lie elsewhere; append of one. Conditions as each lemma says; nothing of the program but its types.
-/
import Derived.Test.YtelcoeeijkainaaDoorSecMem
namespace Go.Proofs.YtelcoeeijkainaaDoor.Sec
open Go.RowKit Leb

/-- A section with the place of its bytes, and their room; its cells. -/
abbrev Ent : Type := Sec × Option Addr × Nat
def el (e : Ent) : List Value := [.int .i64 e.1.id, .slice e.2.1 e.1.b.length e.2.2]
def lab (w : World) (B : Nat) (e : Ent) : Prop := Bytes w B e.2.1 e.1.b ∧ e.1.b.length ≤ e.2.2 ∧ (e.2.1 = none → e.2.2 = 0)
theorem lab.below {w w' : World} {B : Nat} {e : Ent} (h : lab w B e) (hb : Below B w w') : lab w' B e := ⟨h.1.below hb, h.2.1, h.2.2⟩
theorem lab.more {w : World} {B B' : Nat} {e : Ent} (h : lab w B e) (hB : B ≤ B') : lab w B' e := ⟨h.1.more hB, h.2.1, h.2.2⟩
theorem el_len (e : Ent) : (el e).length = 2 := rfl
/-- Their cells, one behind the other. -/
def els (es : List Ent) : List Value := es.flatMap el
theorem els_len (es : List Ent) : (els es).length = es.length * 2 := by
  induction es with
  | nil => rfl
  | cons e es ih => simp only [els, List.flatMap_cons, List.length_append, el_len, List.length_cons] at ih ⊢; omega
theorem els_app (es es' : List Ent) : els (es ++ es') = els es ++ els es' := by simp [els]
theorem els_at (es : List Ent) (j i : Nat) (hj : j < es.length) (hi : i < 2) : (els es)[j * 2 + i]? = some ((el es[j])[i]'(by rw [el_len]; exact hi)) := by
  induction es generalizing j with
  | nil => simp at hj
  | cons e es ih =>
    have e1 : els (e :: es) = el e ++ els es := by simp [els]
    rw [e1]
    cases j with
    | zero =>
      rw [Nat.zero_mul, Nat.zero_add, List.getElem?_append_left (by rw [el_len]; exact hi), List.getElem?_eq_getElem]
      rfl
    | succ j =>
      rw [List.getElem?_append_right (by rw [el_len]; omega), el_len, show (j + 1) * 2 + i - 2 = j * 2 + i from by omega, ih j (by simpa using hj)]
      rfl
theorem el_one (e : Ent) : ∀ u ∈ el e, u.oneCell' = true := by
  intro u hu
  simp only [el, List.mem_cons, List.not_mem_nil, or_false] at hu
  rcases hu with rfl | rfl <;> rfl
theorem els_one (es : List Ent) : ∀ u ∈ els es, u.oneCell' = true := by
  intro u hu
  obtain ⟨e, _, he⟩ := List.mem_flatMap.1 hu
  exact el_one e u he
/-- Cells of sections in memory. -/
def RowE (w : World) (B : Nat) (A : Option Addr) (es : List Ent) : Prop :=
  0 < es.length → ∃ b off, A = some ⟨b, off, none⟩ ∧ b < B ∧ ∀ (j : Nat) (h : j < es.length) (i : Nat) (hi : i < 2), w.cell? ⟨b, off + j * 2 + i, none⟩ = some ((el es[j])[i]'(by rw [el_len]; exact hi))
theorem RowE.below {w w' : World} {B : Nat} {A : Option Addr} {es : List Ent} (h : RowE w B A es) (hb : Below B w w') : RowE w' B A es := by
  intro hl
  obtain ⟨b, off, e, hB, hc⟩ := h hl
  exact ⟨b, off, e, hB, fun j hj i hi => (hb.cell hB).trans (hc j hj i hi)⟩
theorem RowE.more {w : World} {B B' : Nat} {A : Option Addr} {es : List Ent} (h : RowE w B A es) (hB : B ≤ B') : RowE w B' A es := by
  intro hl
  obtain ⟨b, off, e, hb, hc⟩ := h hl
  exact ⟨b, off, e, by omega, hc⟩
theorem at_ents {w : World} {B b off : Nat} (xs : List Sec) (h : ∀ (j : Nat) (h : j < xs.length), SecAt w B b (off + j * 2) xs[j]) :
    ∃ es : List Ent, es.map (fun e => e.1) = xs ∧ (∀ (j : Nat) (h : j < es.length) (i : Nat) (hi : i < 2), w.cell? ⟨b, off + j * 2 + i, none⟩ = some ((el es[j])[i]'(by rw [el_len]; exact hi))) ∧ ∀ e ∈ es, lab w B e := by
  induction xs generalizing off with
  | nil => exact ⟨[], rfl, by simp, by simp⟩
  | cons x xs ih =>
    obtain ⟨es, h1, h2, h3⟩ := ih (off := off + 2) (fun j hj => by
      have := h (j + 1) (by simpa using hj)
      rw [show off + 2 + j * 2 = off + (j + 1) * 2 from by omega]
      simpa using this)
    obtain ⟨A, c, q0, q1, q5, q6, q7⟩ := h 0 (by simp)
    rw [Nat.zero_mul, Nat.add_zero] at q0 q1
    refine ⟨(x, A, c) :: es, by simp [h1], fun j hj i hi => ?_, fun e he => ?_⟩
    · cases j with
      | zero =>
        rw [Nat.zero_mul, Nat.add_zero]
        match i, hi with
        | 0, _ => exact q0
        | 1, _ => exact q1
      | succ j =>
        have := h2 j (by simpa using hj) i hi
        rw [show off + (j + 1) * 2 + i = off + 2 + j * 2 + i from by omega, this]
        rfl
    · rcases List.mem_cons.1 he with rfl | he
      · exact ⟨q5, q6, q7⟩
      · exact h3 e he
theorem Secs.ents {w : World} {B : Nat} {A : Option Addr} {xs : List Sec} (h : Secs w B A xs) : ∃ es : List Ent, es.map (fun e => e.1) = xs ∧ RowE w B A es ∧ ∀ e ∈ es, lab w B e := by
  rcases Nat.eq_zero_or_pos xs.length with h0 | h0
  · have : xs = [] := List.eq_nil_of_length_eq_zero h0
    subst this
    exact ⟨[], rfl, fun h => absurd h (by simp), by simp⟩
  · obtain ⟨b, off, rfl, hB, hc⟩ := h h0
    obtain ⟨es, h1, h2, h3⟩ := at_ents xs hc
    exact ⟨es, h1, fun _ => ⟨b, off, rfl, hB, h2⟩, h3⟩
theorem secs_of {w : World} {B : Nat} {A : Option Addr} {es : List Ent} (h : RowE w B A es) (hl : ∀ e ∈ es, lab w B e) : Secs w B A (es.map fun e => e.1) := by
  intro h0
  obtain ⟨b, off, rfl, hB, hc⟩ := h (by simpa using h0)
  refine ⟨b, off, rfl, hB, fun j hj => ?_⟩
  have hj' : j < es.length := by simpa using hj
  obtain ⟨l1, l2, l3⟩ := hl _ (List.getElem_mem hj')
  have q0 := hc j hj' 0 (by omega)
  have q1 := hc j hj' 1 (by omega)
  rw [List.getElem_map]
  exact ⟨es[j].2.1, es[j].2.2, q0, q1, l1, l2, l3⟩
/-- A slice of sections, with its room. -/
structure Sli (w : World) (B : Nat) (A : Option Addr) (c : Nat) (l : List Sec) : Prop where
  secs : Secs w B A l
  room : l.length ≤ c
  nil : A = none → c = 0
theorem Sli.below {w w' : World} {B : Nat} {A : Option Addr} {c : Nat} {l : List Sec} (h : Sli w B A c l) (hb : Below B w w') : Sli w' B A c l := ⟨h.secs.below hb, h.room, h.nil⟩
theorem Sli.more {w : World} {B B' : Nat} {A : Option Addr} {c : Nat} {l : List Sec} (h : Sli w B A c l) (hB : B ≤ B') : Sli w B' A c l := ⟨h.secs.more hB, h.room, h.nil⟩
/-- The slice value v owns the cells of the sections es, in a block from 'base' on; et: their type. -/
def OwnX (w : World) (et : TypeId) (base : Nat) (v : Value) (es : List Ent) : Prop := w.ownsRow base et 2 v es.length (els es)
theorem OwnX.lt {w : World} {et : TypeId} {base : Nat} {v : Value} {es : List Ent} (h : OwnX w et base v es) : ∀ k, v.ownBlock = some k → k < w.heap.size := fun k hk => (World.ownsRow.lt h k hk).2
theorem OwnX.nil (w : World) (et : TypeId) (base : Nat) : OwnX w et base (.slice none 0 0) [] := World.ownsRow_nil _ _ _ _
theorem OwnX.row {w : World} {et : TypeId} {base : Nat} {v : Value} {es : List Ent} (h : OwnX w et base v es) :
    ∃ A cap, v = .slice A es.length cap ∧ RowE w w.heap.size A es ∧ es.length ≤ cap ∧ (A = none → cap = 0) := by
  have hlt := h.lt
  rcases h.2 with ⟨rfl, h0⟩ | ⟨g, cap, cur, rfl, h1, h2, h3, h4, h5⟩
  · refine ⟨none, 0, by rw [h0], fun h => by omega, by omega, fun _ => rfl⟩
  · refine ⟨some ⟨g, 0, none⟩, cap, rfl, fun _ => ⟨g, 0, rfl, hlt g rfl, fun j hj i hi => ?_⟩, h3, fun h => by cases h⟩
    have hc := World.ownsRow.cellAt h (j * 2 + i) (by omega)
    rw [show 0 + j * 2 + i = j * 2 + i from by omega, hc, els_at es j i hj hi]
theorem ownX_lit (w : World) (et : TypeId) (es : List Ent) (vs : Array Value) (n : Nat) (hv : vs = (els es).toArray) (hn : es.length = n) (hm : n ≤ maxLen) : OwnX (w.alloc (.cells vs et)) et w.heap.size (.slice (some ⟨w.heap.size, 0, none⟩) n n) es := by
  subst hv hn
  have := World.ownsRow_lit (e := et) (size := 2) (base := w.heap.size) w (els es).toArray es.length (Nat.le_refl _) hm (by simp [els_len])
  simpa [OwnX] using this
theorem rowE_lit (w : World) (et : TypeId) (es : List Ent) (vs : Array Value) (n : Nat) (hv : vs = (els es).toArray) (hn : es.length = n) (hm : n ≤ maxLen) : RowE (w.alloc (.cells vs et)) (w.heap.size + 1) (some ⟨w.heap.size, 0, none⟩) es := by
  obtain ⟨A, cap, hA, h, _, _⟩ := (ownX_lit w et es vs n hv hn hm).row
  injection hA with hA _ _
  subst hA
  simpa using h
theorem rowSame {w w' : World} {base e size n : Nat} {v : Value} {xs : List Value} (h : w.ownsRow base e size v n xs) (hb : ∀ b, v.ownBlock = some b → w'.heap[b]? = w.heap[b]?) : w'.ownsRow base e size v n xs := by
  refine ⟨h.1, ?_⟩
  rcases h.2 with ⟨rfl, h0⟩ | ⟨g, cap, cur, rfl, h1, h2, h3, h4, h5⟩
  · exact .inl ⟨rfl, h0⟩
  · exact .inr ⟨g, cap, cur, rfl, h1, (hb g rfl).trans h2, h3, h4, h5⟩
theorem by_refl (w : World) (o : Option Nat) : w.grownBy w o := ⟨rfl, rfl, rfl, Nat.le_refl _, fun _ _ _ => rfl⟩
theorem by_set (w : World) (r i : Nat) (u : Value) : w.grownBy (w.setCell ⟨r, i, none⟩ u) (some r) :=
  ⟨rfl, rfl, rfl, by simp, fun k _ hne => Below.heap_setCell _ _ _ _ (fun e => hne (by rw [e]))⟩
theorem by_below {w w' : World} (h : Below w.heap.size w w') (o : Option Nat) : w.grownBy w' o := ⟨h.os, h.tape, h.output, h.size, fun k hk _ => h.block k hk⟩
theorem by_trans {a b c : World} {o : Option Nat} (h : a.grownBy b o) (k : b.grownBy c o) : a.grownBy c o :=
  ⟨k.os.trans h.os, k.tape.trans h.tape, k.output.trans h.output, Nat.le_trans h.size k.size, fun i hi hn => (k.block i (Nat.lt_of_lt_of_le hi h.size) hn).trans (h.block i hi hn)⟩
/-- A section's bytes are not in this block. -/
def OffB (o : Option Nat) (e : Ent) : Prop := 0 < e.1.b.length → ∀ a, e.2.1 = some a → o ≠ some a.block
theorem lab.lt {w : World} {B : Nat} {e : Ent} (h : lab w B e) (hl : 0 < e.1.b.length) : ∀ a, e.2.1 = some a → a.block < B := by
  intro a ha
  obtain ⟨b, off, e1, hb, _⟩ := h.1.2 hl
  rw [ha] at e1
  injection e1 with e1
  subst e1
  exact hb
theorem lab.same {w w' : World} {B : Nat} {e : Ent} (h : lab w B e) (hh : 0 < e.1.b.length → ∀ a, e.2.1 = some a → w'.heap[a.block]? = w.heap[a.block]?) : lab w' B e := by
  refine ⟨⟨h.1.1, fun hl => ?_⟩, h.2.1, h.2.2⟩
  obtain ⟨b, off, e1, hb, hc⟩ := h.1.2 hl
  have h2 := hh hl _ e1
  refine ⟨b, off, e1, hb, fun j hj => ?_⟩
  have h3 : w'.cell? ⟨b, off + j, none⟩ = w.cell? ⟨b, off + j, none⟩ := World.cell?_of_block h2
  exact h3.trans (hc j hj)
/-- The list under way, r a block besides that is written. -/
structure LS (w W : World) (et : TypeId) (r : Option Nat) (lv : Value) (es : List Ent) : Prop where
  below : Below w.heap.size w W
  own : OwnX W et w.heap.size lv es
  labs : ∀ e ∈ es, lab W W.heap.size e
  offs : ∀ e ∈ es, OffB lv.ownBlock e
  offR : ∀ k, r = some k → k < W.heap.size ∧ w.heap.size ≤ k ∧ lv.ownBlock ≠ some k ∧ ∀ e ∈ es, OffB (some k) e
theorem ls_nil (w W : World) (et : TypeId) (r : Option Nat) (hb : Below w.heap.size w W) (hr : ∀ k, r = some k → k < W.heap.size ∧ w.heap.size ≤ k) : LS w W et r (.slice none 0 0) [] :=
  ⟨hb, OwnX.nil _ _ _, by simp, by simp, fun k hk => ⟨(hr k hk).1, (hr k hk).2, by simp [Value.ownBlock], by simp⟩⟩
theorem LS.keepG {w W W' : World} {et : TypeId} {r : Option Nat} {lv : Value} {es : List Ent} (h : LS w W et r lv es) (hg : W.grownBy W' r) : LS w W' et r lv es :=
  ⟨h.below.grown hg h.below.size fun i hi => (h.offR i hi).2.1,
   rowSame h.own fun b e => hg.block b (h.own.lt b e) fun e2 => (h.offR b e2.symm).2.2.1 e,
   fun e he => ((h.labs e he).same fun hl a ha => hg.block _ ((h.labs e he).lt hl a ha) fun e2 => (h.offR _ e2.symm).2.2.2 e he hl a ha rfl).more hg.size,
   h.offs, fun k hk => ⟨Nat.lt_of_lt_of_le (h.offR k hk).1 hg.size, (h.offR k hk).2⟩⟩
theorem LS.keep {w W W' : World} {et : TypeId} {r : Option Nat} {lv : Value} {es : List Ent} (h : LS w W et r lv es) (hb : Below W.heap.size W W') : LS w W' et r lv es := h.keepG (by_below hb r)
theorem LS.more {w W W' : World} {et : TypeId} {r : Option Nat} {lv : Value} {es : List Ent} (h : LS w W et r lv es) {e : Ent} {A' : Option Addr} {m c' : Nat} (hl : lab W W.heap.size e) (hoff : OffB lv.ownBlock e) (hoffr : ∀ k, r = some k → OffB (some k) e)
    (ho : OwnX W' et w.heap.size (.slice A' m c') (es ++ [e])) (hg : W.grownBy W' lv.ownBlock) (hb' : (Value.slice A' m c').ownBlock = lv.ownBlock ∨ (Value.slice A' m c').ownBlock = some W.heap.size) : LS w W' et r (.slice A' m c') (es ++ [e]) := by
  have hall : ∀ e' ∈ es ++ [e], lab W W.heap.size e' ∧ OffB lv.ownBlock e' := by
    intro e' he
    rcases List.mem_append.1 he with he | he
    · exact ⟨h.labs e' he, h.offs e' he⟩
    · rw [List.mem_singleton.1 he]; exact ⟨hl, hoff⟩
  refine ⟨h.below.grown hg h.below.size (fun i hi => (World.ownsRow.lt h.own i hi).1), ho, fun e' he => ?_, fun e' he hl' a ha => ?_, fun k hk => ?_⟩
  · exact ((hall e' he).1.same fun hl' a ha => hg.block _ ((hall e' he).1.lt hl' a ha) fun e3 => (hall e' he).2 hl' a ha e3.symm).more hg.size
  · rcases hb' with e2 | e2
    · rw [e2]; exact (hall e' he).2 hl' a ha
    · rw [e2]; intro e3
      injection e3 with e3
      have := (hall e' he).1.lt hl' a ha
      omega
  · obtain ⟨h1, h2, h3, h4⟩ := h.offR k hk
    refine ⟨Nat.lt_of_lt_of_le h1 hg.size, h2, ?_, fun e' he => ?_⟩
    · rcases hb' with e2 | e2
      · rw [e2]; exact h3
      · rw [e2]; intro e3
        injection e3 with e3
        omega
    · rcases List.mem_append.1 he with he | he
      · exact h4 e' he
      · rw [List.mem_singleton.1 he]; exact hoffr k hk
theorem LS.sli {w W : World} {et : TypeId} {r : Option Nat} {lv : Value} {es : List Ent} (h : LS w W et r lv es) : ∃ A c, lv = .slice A es.length c ∧ Sli W W.heap.size A c (es.map fun e => e.1) := by
  obtain ⟨A, c, rfl, h1, h2, h3⟩ := h.own.row
  exact ⟨A, c, rfl, secs_of h1 h.labs, by simpa using h2, h3⟩
theorem cells_of {w : World} {B b off : Nat} {es : List Ent} (hr : RowE w B (some ⟨b, off, none⟩) es) : ∀ j u, (els es)[j]? = some u → w.cell? ((⟨b, off, none⟩ : Addr).add j) = some u := by
  intro j u hu
  have hj : j < es.length * 2 := by
    rcases Nat.lt_or_ge j (es.length * 2) with hj | hj
    · exact hj
    · rw [List.getElem?_eq_none (by rw [els_len]; omega)] at hu; cases hu
  obtain ⟨b', off', he, _, hc⟩ := hr (by omega)
  injection he with he
  injection he with e1 e2 _
  subst e1 e2
  have h1 := hc (j / 2) (by omega) (j % 2) (by omega)
  have h2 := els_at es (j / 2) (j % 2) (by omega) (by omega)
  rw [show j / 2 * 2 + j % 2 = j from by omega, hu] at h2
  injection h2 with h2
  rw [← h2, show off + j / 2 * 2 + j % 2 = off + j from by omega] at h1
  by_cases h0 : j = 0
  · subst h0; simpa [Addr.add] using h1
  · simpa [Addr.add, h0] using h1
/-- A type of sections, and of slices of them. -/
structure Ty (t et : TypeId) : Prop where
  und : Tryd.prog.underlying t = some (.slice et)
  info : (Tryd.prog.info? et).map (fun i => (i.zero, i.size, i.bytes)) = some (some (.agg #[.int .i64 0, .slice none 0 0]), 2, 32)
theorem tyO : Ty 39 38 := ⟨Tryd.underlying39, by kernel_rfl⟩
section
variable {w : World} {ops : Array Oper} {rest : List Oper} {o : Oper} {a : Act} {Q : Exit → Act → World → Prop} {t et : TypeId} (T : Ty t et)
include T
set_option maxRecDepth 100000 in
theorem app_sec (hgd : o.guard = none) (s x : Operand) (ho : o.op = .call { callee := .builtin .append, args := #[s, x], argTypes := #[t, t] })
    (base : Nat) (v : Value) (es : List Ent) (hs : a.eval s = v) (hown : OwnX w et base v es) (b off : Nat) (es' : List Ent) (m c B k : Nat) (hm : es'.length = m) (hx : a.eval x = .slice (some ⟨b, off, none⟩) m c) (hr : RowE w B (some ⟨b, off, none⟩) es')
    (hk : (es ++ es').length = k) (hlen : k ≤ 1000000) (hbase : base ≤ w.heap.size)
    (h : ∀ A' c' w', OwnX w' et base (.slice A' k c') (es ++ es') → w.grownBy w' v.ownBlock → ((Value.slice A' k c').ownBlock = v.ownBlock ∨ (Value.slice A' k c').ownBlock = some w.heap.size) → wpList Tryd.prog ops Q rest (a.put o.dst (.slice A' k c')) w') : wpList Tryd.prog ops Q (o :: rest) a w := by
  obtain ⟨i0, hi0, hz0, hz1, hz2⟩ := info_parts T.info
  subst hm hk
  simp only [List.length_append] at hlen
  refine wpList_append_own_at w hgd s x _ ho base et i0 _ 2 32 T.und hi0 hz0 hz1 hz2 rfl (by omega) v es.length (els es) hs hown ⟨b, off, none⟩ es'.length c (els es') hx (els_len es') (cells_of hr) (els_one es') (by simp only [maxLen]; omega) (by omega) hbase ?_
  intro v' w' h1 h2 _ h4
  have ho' : OwnX w' et base v' (es ++ es') := by
    unfold OwnX
    rw [List.length_append, els_app]
    exact h1
  obtain ⟨A', c', rfl, _, _, _⟩ := ho'.row
  exact h A' c' w' ho' h2 h4
end
end Go.Proofs.YtelcoeeijkainaaDoor.Sec
