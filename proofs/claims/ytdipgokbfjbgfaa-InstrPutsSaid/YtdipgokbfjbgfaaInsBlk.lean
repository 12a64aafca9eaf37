/-
  InsBlk: instr's blocks in memory; its methods open, turn, end, take: what each comes to. Conditions: the blocks' cells.
-/
import Derived.Test.YtdipgokbfjbgfaaInsPlain
import Derived.Test.YtdipgokbfjbgfaaTypAll
import Derived.BigQuiet
namespace Go.Proofs.Ytdipgokbfjbgfaa.Ins
open Go.RowKit Leb Typ

/-- Whether an else may stand, block by block, the innermost last. -/
def mays (st : List Nat) : List Value := st.reverse.map fun x => .bool (decide (x = 4))
theorem mays_len (st : List Nat) : (mays st).length = st.length := by simp [mays]
theorem mays_cons (x : Nat) (st : List Nat) : mays (x :: st) = mays st ++ [.bool (decide (x = 4))] := by simp [mays]
theorem mays_last (x : Nat) (st : List Nat) : (mays (x :: st))[st.length]? = some (.bool (decide (x = 4))) := by
  rw [mays_cons, List.getElem?_append_right (by rw [mays_len]; omega), mays_len, Nat.sub_self]; rfl
theorem mays_set (x y : Nat) (st : List Nat) : (mays (x :: st)).set st.length (.bool (decide (y = 4))) = mays (y :: st) := by
  rw [mays_cons, mays_cons, List.set_append_right _ _ (by rw [mays_len]; omega), mays_len, Nat.sub_self]; rfl
theorem mays_take (x : Nat) (st : List Nat) : (mays (x :: st)).take st.length = mays st := by
  rw [mays_cons, List.take_append_of_le_length (by rw [mays_len]; omega), List.take_of_length_le (by rw [mays_len]; omega)]
/-- Blocks in block k: whether an else may stand in each, how many instructions there are, whether the body has ended. -/
structure Bk (W : World) (k : Nat) (st : List Nat) (n : Nat) (ended : Bool) (v : Value) : Prop where
  lt : k < W.heap.size
  c0 : W.cell? ⟨k, 0, none⟩ = some v
  c1 : W.cell? ⟨k, 1, none⟩ = some (.int .i64 (n : Int))
  c2 : W.cell? ⟨k, 2, none⟩ = some (.bool ended)
  z0 : W.frozen? ⟨k, 0, none⟩ = false
  z1 : W.frozen? ⟨k, 1, none⟩ = false
  z2 : W.frozen? ⟨k, 2, none⟩ = false
  own : W.ownsRow (k + 1) 4 1 v st.length (mays st)
theorem rowKeep {w w' : World} {base e size n : Nat} {v : Value} {xs : List Value} (h : w.ownsRow base e size v n xs) (hb : ∀ b, v.ownBlock = some b → w'.heap[b]? = w.heap[b]?) : w'.ownsRow base e size v n xs := by
  refine ⟨h.1, ?_⟩
  rcases h.2 with ⟨rfl, h0⟩ | ⟨g, cap, cur, rfl, h1, h2, h3, h4, h5⟩
  · exact .inl ⟨rfl, h0⟩
  · exact .inr ⟨g, cap, cur, rfl, h1, (hb g rfl).trans h2, h3, h4, h5⟩
theorem Bk.slice {W : World} {k n : Nat} {st : List Nat} {b : Bool} {v : Value} (h : Bk W k st n b v) : ∃ A c, v = .slice A st.length c ∧ st.length ≤ c ∧ (0 < st.length → ∃ g, A = some ⟨g, 0, none⟩ ∧ k < g ∧ g < W.heap.size) := by
  have hlt := World.ownsRow.lt h.own
  rcases h.own.2 with ⟨rfl, h0⟩ | ⟨g, cap, cur, rfl, h1, h2, h3, h4, h5⟩
  · exact ⟨none, 0, by rw [h0], by omega, fun h => by omega⟩
  · exact ⟨some ⟨g, 0, none⟩, cap, rfl, h3, fun _ => ⟨g, rfl, by omega, (hlt g rfl).2⟩⟩
/-- What a method of blocks leaves alone. -/
structure Kept (W W' : World) (k : Nat) (v v' : Value) : Prop where
  os : W'.os = W.os
  tape : W'.tape = W.tape
  output : W'.output = W.output
  size : W.heap.size ≤ W'.heap.size
  block : ∀ b, b < W.heap.size → b ≠ k → v.ownBlock ≠ some b → W'.heap[b]? = W.heap[b]?
  own : v'.ownBlock = v.ownBlock ∨ ∀ b, v'.ownBlock = some b → W.heap.size ≤ b
theorem Kept.refl (W : World) (k : Nat) (v : Value) : Kept W W k v v := ⟨rfl, rfl, rfl, Nat.le_refl _, fun _ _ _ _ => rfl, .inl rfl⟩
theorem kept_set (W : World) (k i : Nat) (v u : Value) : Kept W (W.setCell ⟨k, i, none⟩ u) k v v := ⟨rfl, rfl, rfl, by simp, fun b _ hne _ => Below.heap_setCell _ _ _ _ (fun e => hne (by rw [e])), .inl rfl⟩
theorem Kept.trans {a b c : World} {k : Nat} {v v' v'' : Value} (h : Kept a b k v v') (g : Kept b c k v' v'') : Kept a c k v v'' := by
  refine ⟨g.os.trans h.os, g.tape.trans h.tape, g.output.trans h.output, Nat.le_trans h.size g.size, fun i hi hk hv => ?_, ?_⟩
  · refine (g.block i (Nat.lt_of_lt_of_le hi h.size) hk ?_).trans (h.block i hi hk hv)
    rcases h.own with e | e
    · rw [e]; exact hv
    · intro e2; have := e i e2; omega
  · rcases g.own with e | e
    · rw [e]; exact h.own
    · exact .inr fun i hi => Nat.le_trans h.size (e i hi)
theorem Bk.setC {W : World} {k n : Nat} {st : List Nat} {b : Bool} {v : Value} (h : Bk W k st n b v) (m : Nat) : Bk (W.setCell ⟨k, 1, none⟩ (.int .i64 (m : Int))) k st m b v :=
  ⟨by simpa using h.lt, (World.cell?_setCell_other _ _ _ _ (by simp)).trans h.c0, World.cell?_setCell_same _ _ _ h.c1, (World.cell?_setCell_other _ _ _ _ (by simp)).trans h.c2, by simpa using h.z0, by simpa using h.z1, by simpa using h.z2,
    rowKeep h.own fun b hb => Below.heap_setCell _ _ _ _ (by have := (World.ownsRow.lt h.own b hb).1; simp; omega)⟩
theorem Bk.setE {W : World} {k n : Nat} {st : List Nat} {b : Bool} {v : Value} (h : Bk W k st n b v) (e : Bool) : Bk (W.setCell ⟨k, 2, none⟩ (.bool e)) k st n e v :=
  ⟨by simpa using h.lt, (World.cell?_setCell_other _ _ _ _ (by simp)).trans h.c0, (World.cell?_setCell_other _ _ _ _ (by simp)).trans h.c1, World.cell?_setCell_same _ _ _ h.c2, by simpa using h.z0, by simpa using h.z1, by simpa using h.z2,
    rowKeep h.own fun b hb => Below.heap_setCell _ _ _ _ (by have := (World.ownsRow.lt h.own b hb).1; simp; omega)⟩
/-- Other blocks stand in the cell. -/
theorem Bk.setV {W W' : World} {k n : Nat} {st st' : List Nat} {b : Bool} {v v' : Value} (h : Bk W k st n b v) (hs : W.heap.size ≤ W'.heap.size) (hh : W'.heap[k]? = W.heap[k]?) (ho : W'.ownsRow (k + 1) 4 1 v' st'.length (mays st')) : Bk (W'.setCell ⟨k, 0, none⟩ v') k st' n b v' := by
  have C : ∀ i, W'.cell? ⟨k, i, none⟩ = W.cell? ⟨k, i, none⟩ := fun i => World.cell?_of_block hh
  have F : ∀ i, W'.frozen? ⟨k, i, none⟩ = W.frozen? ⟨k, i, none⟩ := fun i => World.frozen?_of_block hh
  refine ⟨by simpa using Nat.lt_of_lt_of_le h.lt hs, World.cell?_setCell_same _ _ _ ((C 0).trans h.c0), (World.cell?_setCell_other _ _ _ _ (by simp)).trans ((C 1).trans h.c1), (World.cell?_setCell_other _ _ _ _ (by simp)).trans ((C 2).trans h.c2), by simpa using (F 0).trans h.z0, by simpa using (F 1).trans h.z1, by simpa using (F 2).trans h.z2,
    rowKeep ho fun b hb => Below.heap_setCell _ _ _ _ (by have := (World.ownsRow.lt ho b hb).1; simp; omega)⟩
theorem bool_info : (Try.prog.info? 4).map (fun i => (i.zero, i.size, i.bytes)) = some (some (.bool false), 1, 1) := by kernel_rfl
theorem app_bool {w : World} {ops : Array Oper} {rest : List Oper} {o : Oper} {a : Act} {Q : Exit → Act → World → Prop} (hgd : o.guard = none) (s x : Operand) (ho : o.op = .call { callee := .builtin .append, args := #[s, x], argTypes := #[63, 63] })
    (base : Nat) (v : Value) (n : Nat) (xs : List Value) (hs : a.eval s = v) (hown : w.ownsRow base 4 1 v n xs) (g : Nat) (y : Bool) (hx : a.eval x = .slice (some ⟨g, 0, none⟩) 1 1) (hy : w.cell? ⟨g, 0, none⟩ = some (.bool y))
    (hlen : n ≤ 1000000) (hbase : base ≤ w.heap.size)
    (h : ∀ A' c' w', w'.ownsRow base 4 1 (.slice A' (n + 1) c') (n + 1) (xs ++ [.bool y]) → w.grownBy w' v.ownBlock → ((Value.slice A' (n + 1) c').ownBlock = v.ownBlock ∨ (Value.slice A' (n + 1) c').ownBlock = some w.heap.size) → wpList Try.prog ops Q rest (a.put o.dst (.slice A' (n + 1) c')) w') : wpList Try.prog ops Q (o :: rest) a w := by
  obtain ⟨i0, hi0, hz0, hz1, hz2⟩ := info_parts bool_info
  refine wpList_append_own_at w hgd s x _ ho base 4 i0 (.bool false) 1 1 Try.underlying63 hi0 hz0 hz1 hz2 rfl (by omega) v n xs hs hown ⟨g, 0, none⟩ 1 1 [.bool y] hx (by simp) ?_ ?_ (by simp only [maxLen]; omega) (by omega) hbase ?_
  · intro j u hu
    match j, hu with
    | 0, hu => simp at hu; subst hu; simpa [Addr.add] using hy
  · intro u hu
    have : u = .bool y := by simpa using hu
    subst this
    rfl
  · intro v' w' h1 h2 _ h4
    have hv : ∃ A' c', v' = .slice A' (n + 1) c' := by
      rcases h1.2 with ⟨rfl, h0⟩ | ⟨g, cap, cur, rfl, _⟩
      · omega
      · exact ⟨_, _, rfl⟩
    obtain ⟨A', c', rfl⟩ := hv
    exact h A' c' w' h1 h2 h4
set_option maxRecDepth 100000 in
theorem bools_to (g n1 c m : Nat) (h1 : m ≤ n1) (h2 : n1 ≤ c) : ∀ W, (Instr.slice 63 (.slice (some ⟨g, 0, none⟩) n1 c) none (some (.int .i64 (m : Int))) none).run Try.prog W = .ok (.slice (some ⟨g, 0, none⟩) m c) W := fun W => by
  have hsz : ∀ W, (sizeOf (Try.prog.elem 63)).run Try.prog W = .ok 1 W := fun W => by kernel_rfl
  rw [run_slice_h W 63 (some ⟨g, 0, none⟩) n1 c (show Try.prog.underlying 63 = some (.slice (Try.prog.elem 63)) from by kernel_rfl) .i64 (m : Int) (by omega) (by omega), hsz W]
  by_cases hc : c = 0
  · simp [Result.andThen, sliced, hc]
  · simp [Result.andThen, sliced, hc, Addr.add]
/-- What a method of blocks answers. -/
def BkIs (w : World) (k : Nat) (v : Value) (r : Value) (P : World → Value → Prop) (en : Ending) (w' : World) : Prop := ∃ v', en = .returned r ∧ Kept w w' k v v' ∧ P w' v'
section
variable (w : World) (k n c : Nat) (A : Option Addr) (st : List Nat) (b : Bool)
theorem open_deep (y : Bool) (H : Hid (Bk w k st n b (.slice A 64 c))) : Calls Try.prog 53 #[.pointer (some ⟨k, 0, none⟩), .bool y] w (BkIs w k (.slice A 64 c) (.int .i64 4) (fun _ _ => True)) := by
  obtain ⟨lt, c0, c1, c2, z0, z1, z2, own⟩ := H.out
  clear own
  go_enter Try.func53, Try.ntmps53
  go_wp2
  go_ret
  exact ⟨_, rfl, Kept.refl _ _ _, trivial⟩
set_option maxHeartbeats 1000000 in
set_option maxRecDepth 100000 in
theorem open_ok (x len : Nat) (y : Bool) (hy : y = decide (x = 4)) (hlen : st.length = len) (h64 : ((len : Int) == 64) = false) (hle : len ≤ 64) (H : Hid (Bk w k st n b (.slice A len c))) :
    Calls Try.prog 53 #[.pointer (some ⟨k, 0, none⟩), .bool y] w (BkIs w k (.slice A len c) (.int .i64 0) (fun w' v' => Bk w' k (x :: st) n b v')) := by
  have HL := Lib.hid hlen
  have HY := Lib.hid hy
  have hkw := H.out.lt
  obtain ⟨lt, c0, c1, c2, z0, z1, z2, own⟩ := H.out
  rw [hlen] at own
  have hl : Below w.heap.size w (w.alloc (.cells #[.bool y] 4)) := (Below.refl _ _).alloc (Nat.le_refl _) _
  have hO : (w.alloc (.cells #[.bool y] 4)).ownsRow (k + 1) 4 1 (.slice A len c) len (mays st) := World.ownsRow.alloc own _
  have hyc : (w.alloc (.cells #[.bool y] 4)).cell? ⟨w.heap.size, 0, none⟩ = some (.bool y) := by simp
  clear own hlen hy c1 c2 z1 z2
  go_enter Try.func53, Try.ntmps53
  have HK := Lib.hid (fun w2 (hg2 : (w.alloc (.cells #[.bool y] 4)).grownBy w2 (Value.slice A len c).ownBlock) => show w2.heap[k]? = w.heap[k]? from (hg2.block k (by simp; omega) (by
    intro e
    have := World.ownsRow.lt hO k e.symm
    omega)).trans (hl.block k lt))
  have C0 := Lib.hid c0
  have Z0 := Lib.hid z0
  clear c0 z0
  obtain ⟨lt, c0, _, _, z0, _, _, _⟩ := H.out
  go_wp2_with (at_builtin; refine app_bool rfl (.tmp 15) (.tmp 17) rfl (k + 1) (.slice A len c) len (mays st) rfl hO w.heap.size y rfl hyc (by omega) (by simp; omega) ?_; intro A' c' w2 hown2 hg2 hob2; have hk2 := HK.out w2 hg2; have d0 : w2.cell? ⟨k, 0, none⟩ = some (.slice A len c) := (World.cell?_of_block hk2).trans C0.out; have e0 : w2.frozen? ⟨k, 0, none⟩ = false := (World.frozen?_of_block hk2).trans Z0.out; clear c0 z0)
  have hk2 := HK.out w2 hg2
  go_ret
  have hs2 : w.heap.size ≤ w2.heap.size := Nat.le_trans hl.size hg2.size
  refine ⟨_, rfl, Kept.trans (v' := .slice A' (len + 1) c') ⟨hg2.os.trans hl.os, hg2.tape.trans hl.tape, hg2.output.trans hl.output, hs2, fun i hi hne hv => (hg2.block i (by simp; omega) hv.symm).trans (hl.block i hi), ?_⟩ (kept_set _ _ _ _ _), ?_⟩
  · rcases hob2 with e | e
    · exact .inl e
    · refine .inr fun i hi => ?_
      rw [e] at hi
      have : w.heap.size + 1 = i := by simpa using hi
      omega
  · refine H.out.setV hs2 hk2 ?_
    rw [mays_cons, ← HY.out, List.length_cons, HL.out]
    exact hown2
end
section
variable (w : World) (k n c : Nat) (b : Bool)
theorem turn_none (A : Option Addr) (H : Hid (Bk w k [] n b (.slice A 0 c))) : Calls Try.prog 54 #[.pointer (some ⟨k, 0, none⟩)] w (BkIs w k (.slice A 0 c) (.int .i64 2) (fun _ _ => True)) := by
  obtain ⟨lt, c0, c1, c2, z0, z1, z2, own⟩ := H.out
  clear own
  go_enter Try.func54, Try.ntmps54
  go_wp2
  go_ret
  exact ⟨_, rfl, Kept.refl _ _ _, trivial⟩
theorem turn_bad (g m n1 : Nat) (hm : (m : Int) < (n1 : Int)) (hw : wrap64 ((n1 : Int) - 1) = (m : Int)) (c0 : w.cell? ⟨k, 0, none⟩ = some (.slice (some ⟨g, 0, none⟩) n1 c)) (hx : w.cell? ⟨g, m, none⟩ = some (.bool false)) : Calls Try.prog 54 #[.pointer (some ⟨k, 0, none⟩)] w (BkIs w k (.slice (some ⟨g, 0, none⟩) n1 c) (.int .i64 2) (fun _ _ => True)) := by
  have h0 : ¬ (m : Int) < 0 := by omega
  go_enter Try.func54, Try.ntmps54
  go_wp2
  go_ret
  exact ⟨_, rfl, Kept.refl _ _ _, trivial⟩
theorem turn_ok (g m n1 : Nat) (hm : (m : Int) < (n1 : Int)) (hw : wrap64 ((n1 : Int) - 1) = (m : Int)) (c0 : w.cell? ⟨k, 0, none⟩ = some (.slice (some ⟨g, 0, none⟩) n1 c)) (hx : w.cell? ⟨g, m, none⟩ = some (.bool true)) (hz : w.frozen? ⟨g, m, none⟩ = false) (P : World → Value → Prop) (HP : Hid (P (w.setCell ⟨g, m, none⟩ (.bool false)) (.slice (some ⟨g, 0, none⟩) n1 c))) :
    Calls Try.prog 54 #[.pointer (some ⟨k, 0, none⟩)] w (BkIs w k (.slice (some ⟨g, 0, none⟩) n1 c) (.int .i64 0) P) := by
  have h0 : ¬ (m : Int) < 0 := by omega
  go_enter Try.func54, Try.ntmps54
  go_wp2
  go_ret
  exact ⟨_, rfl, ⟨rfl, rfl, rfl, by simp, fun i _ _ hv => Below.heap_setCell _ _ _ _ (by intro e; subst e; exact hv rfl), .inl rfl⟩, HP.out⟩
theorem end_last (A : Option Addr) (H : Hid (Bk w k [] n b (.slice A 0 c))) : Calls Try.prog 55 #[.pointer (some ⟨k, 0, none⟩)] w (BkIs w k (.slice A 0 c) (.tuple #[]) (fun w' v' => Bk w' k [] n true v')) := by
  obtain ⟨lt, c0, c1, c2, z0, z1, z2, own⟩ := H.out
  clear own
  go_enter Try.func55, Try.ntmps55
  go_wp2
  refine bodyPost_end (v := .tuple #[]) (by simp [results, Try.results55, go_sem]) rfl ?_
  exact ⟨_, rfl, kept_set _ _ _ _ _, H.out.setE true⟩
set_option maxHeartbeats 1000000 in
set_option maxRecDepth 100000 in
theorem end_more (g m n1 : Nat) (hn0 : ((n1 : Int) == 0) = false) (hw : wrap64 ((n1 : Int) - 1) = (m : Int)) (c0 : w.cell? ⟨k, 0, none⟩ = some (.slice (some ⟨g, 0, none⟩) n1 c)) (z0 : w.frozen? ⟨k, 0, none⟩ = false)
    (HS : ∀ W, (Instr.slice 63 (.slice (some ⟨g, 0, none⟩) n1 c) none (some (.int .i64 (m : Int))) none).run Try.prog W = .ok (.slice (some ⟨g, 0, none⟩) m c) W) (P : World → Value → Prop) (HP : Hid (P (w.setCell ⟨k, 0, none⟩ (.slice (some ⟨g, 0, none⟩) m c)).drew (.slice (some ⟨g, 0, none⟩) m c))) :
    Calls Try.prog 55 #[.pointer (some ⟨k, 0, none⟩)] w (BkIs w k (.slice (some ⟨g, 0, none⟩) n1 c) (.tuple #[]) P) := by
  go_enter Try.func55, Try.ntmps55
  go_wp2_with fail
  go_region
  go_wp2
  refine bodyPost_end (v := .tuple #[]) (by simp [results, Try.results55, go_sem]) rfl ?_
  exact ⟨.slice (some ⟨g, 0, none⟩) m c, rfl, Kept.trans (v' := .slice (some ⟨g, 0, none⟩) n1 c) (kept_set w k 0 (.slice (some ⟨g, 0, none⟩) n1 c) (.slice (some ⟨g, 0, none⟩) m c)) ⟨rfl, rfl, rfl, Nat.le_refl _, fun _ _ _ _ => rfl, .inl rfl⟩, HP.out⟩
end
theorem Bk.drew {W : World} {k n : Nat} {st : List Nat} {b : Bool} {v : Value} (h : Bk W k st n b v) : Bk W.drew k st n b v := ⟨h.lt, h.c0, h.c1, h.c2, h.z0, h.z1, h.z2, h.own⟩
theorem BkIs.mono {w w' : World} {k : Nat} {v r : Value} {P P' : World → Value → Prop} {en : Ending} (h : BkIs w k v r P en w') (hP : ∀ W V, P W V → P' W V) : BkIs w k v r P' en w' := by
  obtain ⟨v', h1, h2, h3⟩ := h
  exact ⟨v', h1, h2, hP _ _ h3⟩
theorem open_any {w : World} {k n : Nat} {st : List Nat} {b : Bool} {v : Value} (H : Bk w k st n b v) (x : Nat) (y : Bool) (hy : y = decide (x = 4)) (hst : st.length ≤ 64) :
    Calls Try.prog 53 #[.pointer (some ⟨k, 0, none⟩), .bool y] w (BkIs w k v (.int .i64 ((if st.length = 64 then 4 else 0 : Nat) : Int)) (fun w' v' => st.length ≠ 64 → Bk w' k (x :: st) n b v')) := by
  obtain ⟨A, c, rfl, hc, hA⟩ := H.slice
  by_cases h : st.length = 64
  · rw [if_pos h]
    rw [h] at H hst ⊢
    refine (open_deep w k n c A st b y (Lib.hid H)).mono fun e w' h' => h'.mono fun _ _ _ => ?_
    intro h2; exact absurd rfl h2
  · rw [if_neg h]
    exact (open_ok w k n c A st b x st.length y hy rfl (by simp; omega) hst (Lib.hid H)).mono fun e w' h' => h'.mono fun _ _ h2 _ => h2
theorem turn_any {w : World} {k n : Nat} {st : List Nat} {b : Bool} {v : Value} (H : Bk w k st n b v) (hst : st.length ≤ 64) :
    Calls Try.prog 54 #[.pointer (some ⟨k, 0, none⟩)] w (BkIs w k v (.int .i64 ((if st.head? = some 4 then 0 else 2 : Nat) : Int)) (fun w' v' => st.head? = some 4 → Bk w' k (5 :: st.tail) n b v')) := by
  obtain ⟨A, c, rfl, hc, hA⟩ := H.slice
  cases st with
  | nil =>
    rw [if_neg (by simp)]
    exact (turn_none w k n c b A (Lib.hid H)).mono fun e w' h' => h'.mono fun _ _ _ h2 => absurd h2 (by simp)
  | cons x st =>
    obtain ⟨g, rfl, hkg, hgw⟩ := hA (by simp)
    simp only [List.length_cons] at H hst ⊢
    have hx := World.ownsRow.cellAt H.own st.length (by simp)
    have hf := World.ownsRow.frozenAt H.own st.length
    rw [mays_last] at hx
    have hw : wrap64 (((st.length + 1 : Nat) : Int) - 1) = (st.length : Int) := by rw [IntWalk.wrap64_in _ (by omega)]; omega
    by_cases h4 : x = 4
    · subst h4
      rw [if_pos (by simp)]
      have hs := (World.ownsRow.stored H.own st.length (.bool false)).1
      rw [show (mays (4 :: st)).set st.length (.bool false) = mays (5 :: st) from mays_set 4 5 st] at hs
      have hne : k ≠ g := by omega
      have hk : (w.setCell ⟨g, st.length, none⟩ (.bool false)).heap[k]? = w.heap[k]? := Below.heap_setCell _ _ _ _ hne
      have C : ∀ i, (w.setCell ⟨g, st.length, none⟩ (.bool false)).cell? ⟨k, i, none⟩ = w.cell? ⟨k, i, none⟩ := fun i => World.cell?_of_block hk
      have F : ∀ i, (w.setCell ⟨g, st.length, none⟩ (.bool false)).frozen? ⟨k, i, none⟩ = w.frozen? ⟨k, i, none⟩ := fun i => World.frozen?_of_block hk
      exact turn_ok w k c g st.length (st.length + 1) (by omega) hw H.c0 hx hf _ (Lib.hid fun _ => ⟨by simpa using H.lt, (C _).trans H.c0, (C _).trans H.c1, (C _).trans H.c2, (F _).trans H.z0, (F _).trans H.z1, (F _).trans H.z2, hs⟩)
    · rw [if_neg (by simpa using h4)]
      rw [decide_eq_false h4] at hx
      exact (turn_bad w k c g st.length (st.length + 1) (by omega) hw H.c0 hx).mono fun e w' h' => h'.mono fun _ _ _ h2 => absurd h2 (by simpa using h4)
theorem end_any {w : World} {k n : Nat} {st : List Nat} {v : Value} (H : Bk w k st n false v) (hst : st.length ≤ 64) :
    Calls Try.prog 55 #[.pointer (some ⟨k, 0, none⟩)] w (BkIs w k v (.tuple #[]) (fun w' v' => Bk w' k st.tail n (decide (st = [])) v')) := by
  obtain ⟨A, c, rfl, hc, hA⟩ := H.slice
  cases st with
  | nil => exact end_last w k n c false A (Lib.hid H)
  | cons x st =>
    obtain ⟨g, rfl, hkg, hgw⟩ := hA (by simp)
    simp only [List.length_cons] at H hst hc ⊢
    have hw : wrap64 (((st.length + 1 : Nat) : Int) - 1) = (st.length : Int) := by rw [IntWalk.wrap64_in _ (by omega)]; omega
    have HS := bools_to g (st.length + 1) c st.length (by omega) (by omega)
    have ho : w.ownsRow (k + 1) 4 1 (.slice (some ⟨g, 0, none⟩) st.length c) st.length (mays st) := by
      refine ⟨by rw [mays_len]; omega, ?_⟩
      rcases H.own.2 with ⟨h, _⟩ | ⟨g', cap, cur, h, h1, h2, h3, h4, h5, h6⟩
      · cases h
      · simp only [Value.slice.injEq, Option.some.injEq, Addr.mk.injEq] at h
        obtain ⟨⟨rfl, _⟩, _, rfl⟩ := h
        refine .inr ⟨g, c, cur, rfl, h1, h2, by omega, h4, h5, ?_⟩
        rw [← mays_take x st, ← h6, List.take_take]
        congr 1
        simp
    have hb := (H.setV (v' := .slice (some ⟨g, 0, none⟩) st.length c) (Nat.le_refl _) rfl ho).drew
    exact end_more w k c g st.length (st.length + 1) (by simp; omega) hw H.c0 H.z0 HS _ (Lib.hid (by simpa using hb))
section
variable (w : World) (k n : Nat) (st : List Nat) (v : Value) (H : Hid (Bk w k st n false v))
include H
theorem take_long (op : Int) (hn : ((n : Int) == 2000) = true) : Calls Try.prog 39 #[.pointer (some ⟨k, 0, none⟩), .int .i64 op] w (BkIs w k v (.int .i64 4) (fun _ _ => True)) := by
  obtain ⟨lt, c0, c1, c2, z0, z1, z2, own⟩ := H.out
  clear own c0
  go_enter Try.func39, Try.ntmps39
  go_wp2
  go_ret
  exact ⟨_, rfl, Kept.refl _ _ _, trivial⟩
variable (q er : Nat) (P : World → Value → Prop) (hn : ((n : Int) == 2000) = false) (hw : wrap64 ((n : Int) + 1) = (q : Int))
include hn hw
theorem take_2 (HO : Hid (∀ W, Bk W k st q false v → Calls Try.prog 53 #[.pointer (some ⟨k, 0, none⟩), .bool false] W (BkIs W k v (.int .i64 (er : Int)) P))) : Calls Try.prog 39 #[.pointer (some ⟨k, 0, none⟩), .int .i64 2] w (BkIs w k v (.int .i64 (er : Int)) P) := by
  have HQ := Lib.hid (H.out.setC q)
  have HK := Lib.hid (kept_set w k 1 v (.int .i64 (q : Int)))
  obtain ⟨lt, c0, c1, c2, z0, z1, z2, own⟩ := H.out
  clear own c0 H
  go_enter Try.func39, Try.ntmps39
  go_wp2_with fail
  refine (HO.out _ HQ.out).mono ?_
  rintro en w1 ⟨v', rfl, hk, hp⟩
  go_wp2
  go_ret
  exact ⟨v', rfl, HK.out.trans hk, hp⟩
theorem take_3 (HO : Hid (∀ W, Bk W k st q false v → Calls Try.prog 53 #[.pointer (some ⟨k, 0, none⟩), .bool false] W (BkIs W k v (.int .i64 (er : Int)) P))) : Calls Try.prog 39 #[.pointer (some ⟨k, 0, none⟩), .int .i64 3] w (BkIs w k v (.int .i64 (er : Int)) P) := by
  have HQ := Lib.hid (H.out.setC q)
  have HK := Lib.hid (kept_set w k 1 v (.int .i64 (q : Int)))
  obtain ⟨lt, c0, c1, c2, z0, z1, z2, own⟩ := H.out
  clear own c0 H
  go_enter Try.func39, Try.ntmps39
  go_wp2_with fail
  refine (HO.out _ HQ.out).mono ?_
  rintro en w1 ⟨v', rfl, hk, hp⟩
  go_wp2
  go_ret
  exact ⟨v', rfl, HK.out.trans hk, hp⟩
theorem take_4 (HO : Hid (∀ W, Bk W k st q false v → Calls Try.prog 53 #[.pointer (some ⟨k, 0, none⟩), .bool true] W (BkIs W k v (.int .i64 (er : Int)) P))) : Calls Try.prog 39 #[.pointer (some ⟨k, 0, none⟩), .int .i64 4] w (BkIs w k v (.int .i64 (er : Int)) P) := by
  have HQ := Lib.hid (H.out.setC q)
  have HK := Lib.hid (kept_set w k 1 v (.int .i64 (q : Int)))
  obtain ⟨lt, c0, c1, c2, z0, z1, z2, own⟩ := H.out
  clear own c0 H
  go_enter Try.func39, Try.ntmps39
  go_wp2_with fail
  refine (HO.out _ HQ.out).mono ?_
  rintro en w1 ⟨v', rfl, hk, hp⟩
  go_wp2
  go_ret
  exact ⟨v', rfl, HK.out.trans hk, hp⟩
theorem take_5 (HO : Hid (∀ W, Bk W k st q false v → Calls Try.prog 54 #[.pointer (some ⟨k, 0, none⟩)] W (BkIs W k v (.int .i64 (er : Int)) P))) : Calls Try.prog 39 #[.pointer (some ⟨k, 0, none⟩), .int .i64 5] w (BkIs w k v (.int .i64 (er : Int)) P) := by
  have HQ := Lib.hid (H.out.setC q)
  have HK := Lib.hid (kept_set w k 1 v (.int .i64 (q : Int)))
  obtain ⟨lt, c0, c1, c2, z0, z1, z2, own⟩ := H.out
  clear own c0 H
  go_enter Try.func39, Try.ntmps39
  go_wp2_with fail
  refine (HO.out _ HQ.out).mono ?_
  rintro en w1 ⟨v', rfl, hk, hp⟩
  go_wp2
  go_ret
  exact ⟨v', rfl, HK.out.trans hk, hp⟩
omit er in
theorem take_11 (HO : Hid (∀ W, Bk W k st q false v → Calls Try.prog 55 #[.pointer (some ⟨k, 0, none⟩)] W (BkIs W k v (.tuple #[]) P))) : Calls Try.prog 39 #[.pointer (some ⟨k, 0, none⟩), .int .i64 11] w (BkIs w k v (.int .i64 0) P) := by
  have HQ := Lib.hid (H.out.setC q)
  have HK := Lib.hid (kept_set w k 1 v (.int .i64 (q : Int)))
  obtain ⟨lt, c0, c1, c2, z0, z1, z2, own⟩ := H.out
  clear own c0 H
  go_enter Try.func39, Try.ntmps39
  go_wp2_with fail
  refine (HO.out _ HQ.out).mono ?_
  rintro en w1 ⟨v', rfl, hk, hp⟩
  go_wp2
  go_ret
  exact ⟨v', rfl, HK.out.trans hk, hp⟩
theorem take_plain (op : Int) (t2 : (op == 2) = false) (t3 : (op == 3) = false) (t4 : (op == 4) = false) (t5 : (op == 5) = false) (t11 : (op == 11) = false) : Calls Try.prog 39 #[.pointer (some ⟨k, 0, none⟩), .int .i64 op] w (BkIs w k v (.int .i64 0) (fun w' v' => Bk w' k st q false v')) := by
  have HQ := Lib.hid (H.out.setC q)
  have HK := Lib.hid (kept_set w k 1 v (.int .i64 (q : Int)))
  obtain ⟨lt, c0, c1, c2, z0, z1, z2, own⟩ := H.out
  clear own c0 H
  go_enter Try.func39, Try.ntmps39
  go_wp2
  go_ret
  exact ⟨_, rfl, HK.out, HQ.out⟩
end
/-- What take answers: the error, the blocks behind it, whether the body has ended. -/
def takeRes (op : Int) (st : List Nat) (n : Nat) : Nat × List Nat × Bool :=
  if n = 2000 then (4, [], false) else
  match blocks op st with
  | (e, none) => if e = 0 then (0, [], true) else (e, [], false)
  | (_, some st') => (0, st', false)
theorem take_any {w : World} {k n : Nat} {st : List Nat} {v : Value} (H : Bk w k st n false v) (op : Int) (hn : n ≤ 2000) (hst : st.length ≤ 64) :
    Calls Try.prog 39 #[.pointer (some ⟨k, 0, none⟩), .int .i64 op] w (BkIs w k v (.int .i64 ((takeRes op st n).1 : Int)) (fun w' v' => (takeRes op st n).1 = 0 → Bk w' k (takeRes op st n).2.1 (n + 1) (takeRes op st n).2.2 v')) := by
  have HH := Lib.hid H
  by_cases h : n = 2000
  · have e : takeRes op st n = (4, [], false) := by unfold takeRes; rw [if_pos h]
    rw [e]
    exact (take_long w k n st v HH op (by simp; omega)).mono fun _ _ h' => h'.mono fun _ _ _ h2 => absurd h2 (by simp)
  have hnn : ((n : Int) == 2000) = false := by simp; omega
  have hw : wrap64 ((n : Int) + 1) = ((n + 1 : Nat) : Int) := by rw [IntWalk.wrap64_in _ (by omega)]; omega
  have er : takeRes op st n = match blocks op st with
      | (e, none) => if e = 0 then (0, [], true) else (e, [], false)
      | (_, some st') => (0, st', false) := by unfold takeRes; rw [if_neg h]
  have opens : ∀ x : Nat, (x : Int) = op → 2 ≤ x ∧ x ≤ 4 → takeRes op st n = if st.length = 64 then (4, [], false) else (0, x :: st, false) := by
    rintro x rfl hx
    rw [er]
    unfold blocks
    rw [if_pos (by omega)]
    by_cases h64 : st.length = 64
    · rw [if_pos h64, if_pos h64]; rfl
    · rw [if_neg h64, if_neg h64]; simp
  have opn : ∀ (x : Nat) (y : Bool), (x : Int) = op → 2 ≤ x ∧ x ≤ 4 → y = decide (x = 4) → ∀ W, Bk W k st (n + 1) false v → Calls Try.prog 53 #[.pointer (some ⟨k, 0, none⟩), .bool y] W (BkIs W k v (.int .i64 ((takeRes op st n).1 : Int)) (fun w' v' => (takeRes op st n).1 = 0 → Bk w' k (takeRes op st n).2.1 (n + 1) (takeRes op st n).2.2 v')) := by
    intro x y hx h1 hy W hW
    rw [opens x hx h1]
    have := open_any hW x y hy hst
    by_cases h64 : st.length = 64
    · rw [if_pos h64] at this ⊢
      exact this.mono fun _ _ h' => h'.mono fun _ _ _ h2 => absurd h2 (by simp)
    · rw [if_neg h64] at this ⊢
      exact this.mono fun _ _ h' => h'.mono fun _ _ h3 _ => h3 h64
  by_cases h2 : op = 2
  · subst h2; exact take_2 w k n st v HH (n + 1) _ _ hnn hw (Lib.hid (opn 2 false rfl (by omega) (by decide)))
  by_cases h3 : op = 3
  · subst h3; exact take_3 w k n st v HH (n + 1) _ _ hnn hw (Lib.hid (opn 3 false rfl (by omega) (by decide)))
  by_cases h4 : op = 4
  · subst h4; exact take_4 w k n st v HH (n + 1) _ _ hnn hw (Lib.hid (opn 4 true rfl (by omega) (by decide)))
  by_cases h5 : op = 5
  · subst h5
    have e5 : takeRes 5 st n = if st.head? = some 4 then (0, 5 :: st.tail, false) else (2, [], false) := by
      rw [er]
      unfold blocks
      rw [if_neg (by omega), if_pos rfl]
      by_cases h6 : st.head? = some 4
      · rw [if_pos h6, if_pos h6]
      · rw [if_neg h6, if_neg h6]; rfl
    refine take_5 w k n st v HH (n + 1) _ _ hnn hw (Lib.hid fun W hW => ?_)
    have := turn_any hW hst
    rw [e5]
    by_cases h6 : st.head? = some 4
    · rw [if_pos h6] at this ⊢
      exact this.mono fun _ _ h' => h'.mono fun _ _ h3 _ => h3 h6
    · rw [if_neg h6] at this ⊢
      exact this.mono fun _ _ h' => h'.mono fun _ _ _ h2 => absurd h2 (by simp)
  by_cases h11 : op = 11
  · subst h11
    have e11 : takeRes 11 st n = (0, st.tail, decide (st = [])) := by
      rw [er]
      unfold blocks
      rw [if_neg (by omega), if_neg (by omega), if_pos rfl]
      by_cases h6 : st = []
      · subst h6; rfl
      · rw [if_neg h6, decide_eq_false h6]
    rw [e11]
    exact take_11 w k n st v HH (n + 1) _ hnn hw (Lib.hid fun W hW => (end_any hW hst).mono fun _ _ h' => h'.mono fun _ _ h3 _ => h3)
  · have ep : takeRes op st n = (0, st, false) := by
      rw [er]
      unfold blocks
      rw [if_neg (by omega), if_neg h5, if_neg h11]
    rw [ep]
    exact (take_plain w k n st v HH (n + 1) hnn hw op (by simpa using h2) (by simpa using h3) (by simpa using h4) (by simpa using h5) (by simpa using h11)).mono fun _ _ h' => h'.mono fun _ _ h3 _ => h3
theorem blocks_sz (op : Int) (st : List Nat) (h : st.length ≤ 64) : (blocks op st).1 ≤ 4 ∧ ∀ st', (blocks op st).2 = some st' → st'.length ≤ 64 := by
  unfold blocks
  by_cases h1 : 2 ≤ op ∧ op ≤ 4
  · rw [if_pos h1]
    by_cases h2 : st.length = 64
    · rw [if_pos h2]; simp
    · rw [if_neg h2]
      refine ⟨by simp, fun st' e => ?_⟩
      injection e with e
      subst e
      simp only [List.length_cons]; omega
  rw [if_neg h1]
  by_cases h3 : op = 5
  · rw [if_pos h3]
    by_cases h2 : st.head? = some 4
    · rw [if_pos h2]
      refine ⟨by simp, fun st' e => ?_⟩
      injection e with e
      subst e
      cases st with
      | nil => simp at h2
      | cons x st => simpa using h
    · rw [if_neg h2]; simp
  rw [if_neg h3]
  by_cases h4 : op = 11
  · rw [if_pos h4]
    by_cases h2 : st = []
    · rw [if_pos h2]; simp
    · rw [if_neg h2]
      refine ⟨by simp, fun st' e => ?_⟩
      injection e with e
      subst e
      simp only [List.length_tail]; omega
  · rw [if_neg h4]
    refine ⟨by simp, fun st' e => ?_⟩
    injection e with e
    subst e
    exact h
theorem takeRes_sz (op : Int) (st : List Nat) (n : Nat) (h : st.length ≤ 64) : (takeRes op st n).2.1.length ≤ 64 ∧ (takeRes op st n).1 ≤ 4 := by
  obtain ⟨b1, b2⟩ := blocks_sz op st h
  unfold takeRes
  by_cases hn : n = 2000
  · rw [if_pos hn]; simp
  rw [if_neg hn]
  generalize blocks op st = g at *
  obtain ⟨e, o⟩ := g
  cases o with
  | none =>
    simp only
    split
    · simp
    · exact ⟨by simp, b1⟩
  | some st' => exact ⟨b2 st' rfl, by simp⟩
end Go.Proofs.Ytdipgokbfjbgfaa.Ins
