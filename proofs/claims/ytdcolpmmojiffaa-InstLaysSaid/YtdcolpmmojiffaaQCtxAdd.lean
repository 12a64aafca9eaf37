/-
  CtxAdd: A context under way: a list of it grown by an append. Conditions as each lemma says. (Written by wip/tools/genctxadd.py.)
-/
import Derived.Test.YtdcolpmmojiffaaQCtxRep
namespace Go.Proofs.Ytdcolpmmojiffaa.Cx
open Go.RowKit Leb
open _root_.Go.Proofs.Ytdcolpmmojiffaa.Mod

theorem info_parts {et : TypeId} {z : Value} {k by_ : Nat} (h : (Try.prog.info? et).map (fun i => (i.zero, i.size, i.bytes)) = some (some z, k, by_)) : ∃ i0, Try.prog.info? et = some i0 ∧ i0.zero = some z ∧ i0.size = k ∧ i0.bytes = by_ := by
  cases hh : Try.prog.info? et with
  | none => rw [hh] at h; cases h
  | some i0 =>
    rw [hh] at h
    simp only [Option.map_some, Option.some.injEq, Prod.mk.injEq] at h
    exact ⟨i0, rfl, h.1, h.2.1, h.2.2⟩
structure Ty (t et : TypeId) (k : Nat) : Prop where
  und : Try.prog.underlying t = some (.slice et)
  info : ∃ z b, (Try.prog.info? et).map (fun i => (i.zero, i.size, i.bytes)) = some (some z, k, b) ∧ z.cells.size = k ∧ b ≤ 200
  pos : 0 < k
set_option maxRecDepth 100000 in
theorem tyI : Ty 23 3 1 := ⟨Try.underlying23, ⟨.int .i64 0, 8, by kernel_rfl, rfl, by omega⟩, by omega⟩
set_option maxRecDepth 100000 in
theorem tyV : Ty 64 101 2 := ⟨Try.underlying64, ⟨.agg #[.int .i64 0, .bool false], 16, by kernel_rfl, rfl, by omega⟩, by omega⟩
set_option maxRecDepth 100000 in
theorem tyL : Ty 45 44 3 := ⟨Try.underlying45, ⟨.agg #[.int .i64 0, .bool false, .int .i64 0], 24, by kernel_rfl, rfl, by omega⟩, by omega⟩
set_option maxRecDepth 100000 in
theorem tyT : Ty 46 94 2 := ⟨Try.underlying46, ⟨.agg #[.slice none 0 0, .slice none 0 0], 48, by kernel_rfl, rfl, by omega⟩, by omega⟩
theorem run_app {w : World} {t et : TypeId} {k : Nat} (T : Ty t et k) (ty : TypeId) {base n : Nat} {A : Option Addr} {c : Nat} {cs : List Value} (hown : w.ownsRow base et k (.slice A n c) n cs) {X : Option Addr} {m cx : Nat} {news : List Value} (hs : Src w k X m cx news) (h1 : ∀ u ∈ news, u.oneCell' = true) (hlen : n + m ≤ 1000000) (hbase : base ≤ w.heap.size) :
    ∃ A' c' w', (Builtin.append_ #[t, t] ty #[.slice A n c, .slice X m cx]).run Try.prog w = .ok (.slice A' (n + m) c') w' ∧ w'.ownsRow base et k (.slice A' (n + m) c') (n + m) (cs ++ news) ∧ w.grownBy w' (Value.slice A n c).ownBlock ∧ ((Value.slice A' (n + m) c').ownBlock = (Value.slice A n c).ownBlock ∨ (Value.slice A' (n + m) c').ownBlock = some w.heap.size) := by
  obtain ⟨z, b, hi, hz, hb⟩ := T.info
  obtain ⟨i0, hi0, hz0, hz1, hz2⟩ := info_parts hi
  cases X with
  | none =>
    obtain ⟨rfl, rfl⟩ := hs.nil rfl
    have hn : news = [] := List.length_eq_zero_iff.1 (by rw [hs.len]; omega)
    subst hn
    refine ⟨A, c, w, run_append_owned_none (P := Try.prog) w base t ty et i0 k T.und hi0 _ n cs hown, by simpa using hown, ⟨rfl, rfl, rfl, Nat.le_refl _, fun _ _ _ => rfl⟩, .inl rfl⟩
  | some a =>
    obtain ⟨v', w', hrun, h2, h3, h4, h5⟩ := run_append_own_at (P := Try.prog) w base t ty et i0 z k b T.und hi0 hz0 hz1 hz2 hz T.pos _ n cs hown a m cx news hs.len (hs.at_ a rfl) h1 (by simp only [maxLen]; omega) (by have : (n + m) * b ≤ 1000000 * 200 := Nat.mul_le_mul hlen hb; omega) hbase
    rcases h2.2 with ⟨e, h0⟩ | ⟨g, cap, cur, e, _⟩
    · subst e
      have hm : n + m = 0 := h0
      refine ⟨none, 0, w', by rw [hrun, hm], by rw [hm] at h2 ⊢; exact h2, h3, by rw [hm]; exact h5⟩
    · subst e
      exact ⟨_, cap, w', hrun, h2, h3, h5⟩
section
variable {w : World} {ops : Array Oper} {rest : List Oper} {o : Oper} {a : Act} {K : Act → World → Prop} {Q : Exit → Act → World → Prop} {E : Prop} {t et : TypeId} {k : Nat} (T : Ty t et k)
include T
theorem app_step (hg : o.guard = none) (s x : Operand) (ho : o.op = .call { callee := .builtin .append, args := #[s, x], argTypes := #[t, t] })
    {base n : Nat} {A : Option Addr} {c : Nat} {cs : List Value} (hs : a.eval s = .slice A n c) (hown : w.ownsRow base et k (.slice A n c) n cs) {X : Option Addr} {m cx : Nat} {news : List Value} (hx : a.eval x = .slice X m cx) (hr : Src w k X m cx news) (h1 : ∀ u ∈ news, u.oneCell' = true) (hlen : n + m ≤ 1000000) (hbase : base ≤ w.heap.size)
    (h : ∀ A' c' w', w'.ownsRow base et k (.slice A' (n + m) c') (n + m) (cs ++ news) → w.grownBy w' (Value.slice A n c).ownBlock → ((Value.slice A' (n + m) c').ownBlock = (Value.slice A n c).ownBlock ∨ (Value.slice A' (n + m) c').ownBlock = some w.heap.size) → K (a.put o.dst (.slice A' (n + m) c')) w') :
    if Region.wanted o (yielded ops a.tmps) = true then Oper.wp Try.prog o a w K Q else E := by
  rw [if_pos (by simp [Region.wanted, hg])]
  obtain ⟨A', c', w', hrun, h2, h3, h4⟩ := run_app T o.type hown hr h1 hlen hbase
  unfold Oper.wp execOp
  simp only [ho, resolve, invoke, builtin, Sem.run_bind, Sem.run_pure, Result.andThen_ok, List.map_toArray, List.map_cons, List.map_nil, hs, hx, hrun]
  exact h A' c' w' h2 h3 h4
theorem app_list (hg : o.guard = none) (s x : Operand) (ho : o.op = .call { callee := .builtin .append, args := #[s, x], argTypes := #[t, t] })
    {base n : Nat} {A : Option Addr} {c : Nat} {cs : List Value} (hs : a.eval s = .slice A n c) (hown : w.ownsRow base et k (.slice A n c) n cs) {X : Option Addr} {m cx : Nat} {news : List Value} (hx : a.eval x = .slice X m cx) (hr : Src w k X m cx news) (h1 : ∀ u ∈ news, u.oneCell' = true) (hlen : n + m ≤ 1000000) (hbase : base ≤ w.heap.size)
    (h : ∀ A' c' w', w'.ownsRow base et k (.slice A' (n + m) c') (n + m) (cs ++ news) → w.grownBy w' (Value.slice A n c).ownBlock → ((Value.slice A' (n + m) c').ownBlock = (Value.slice A n c).ownBlock ∨ (Value.slice A' (n + m) c').ownBlock = some w.heap.size) → wpList Try.prog ops Q rest (a.put o.dst (.slice A' (n + m) c')) w') :
    wpList Try.prog ops Q (o :: rest) a w := by
  refine wpList_plain hg fun K hK => ?_
  obtain ⟨A', c', w', hrun, h2, h3, h4⟩ := run_app T o.type hown hr h1 hlen hbase
  unfold Oper.wp execOp
  simp only [ho, resolve, invoke, builtin, Sem.run_bind, Sem.run_pure, Result.andThen_ok, List.map_toArray, List.map_cons, List.map_nil, hs, hx, hrun]
  exact hK _ _ (h A' c' w' h2 h3 h4)
end
theorem src_new (w : World) (cs : Array Value) (t : TypeId) (k : Nat) (hk : cs.size = k) : Src (w.alloc (.cells cs t)) k (some ⟨w.heap.size, 0, none⟩) 1 1 cs.toList := by
  refine ⟨by simp [hk], (fun e => by cases e), fun a e j u hu => ?_⟩
  injection e with e
  subst e
  have : (⟨w.heap.size, 0, none⟩ : Addr).add j = ⟨w.heap.size, j, none⟩ := by
    unfold Addr.add; by_cases h : j = 0 <;> simp [h]
  rw [this]
  simpa using hu
structure CS (W : World) (L M : Nat) (okT : Nat → Prop) (p : Plc) (c : GCtx) : Prop where
  box : W.heap[M]? = some (.cells (p.vals c).toArray 66 (0, 0))
  ty : Lst ftR W okT p.A0 p.d0 c.types
  oT : ∀ b, okT b → b < L ∧ b ≠ M
  lt : M < L
  hL : L ≤ W.heap.size
  o1 : W.ownsRow L 3 1 (.slice p.A1 c.funcs.length p.d1) c.funcs.length (c.funcs.flatMap iv)
  o2 : W.ownsRow L 101 2 (.slice p.A2 c.globs.length p.d2) c.globs.length (c.globs.flatMap vv)
  o3 : W.ownsRow L 44 3 (.slice p.A3 c.tabs.length p.d3) c.tabs.length (c.tabs.flatMap lv)
  o4 : W.ownsRow L 44 3 (.slice p.A4 c.mems.length p.d4) c.mems.length (c.mems.flatMap lv)
  apart : ∀ b, (Value.slice p.A3 c.tabs.length p.d3).ownBlock = some b → (Value.slice p.A4 c.mems.length p.d4).ownBlock ≠ some b
section
variable {W : World} {L M : Nat} {okT : Nat → Prop} {p : Plc} {c : GCtx}
theorem CS.below (h : CS W L M okT p c) {W' : World} (hb : Below W.heap.size W W') : CS W' L M okT p c :=
  ⟨(hb.block M (by have := h.lt; have := h.hL; omega)).trans h.box, lst_below h.ty hb, h.oT, h.lt, Nat.le_trans h.hL hb.size, rowSame h.o1 fun g hg => hb.block g (rowLt h.o1 g hg).2, rowSame h.o2 fun g hg => hb.block g (rowLt h.o2 g hg).2, rowSame h.o3 fun g hg => hb.block g (rowLt h.o3 g hg).2, rowSame h.o4 fun g hg => hb.block g (rowLt h.o4 g hg).2, h.apart⟩
theorem CS.fin (h : CS W L M okT p c) {ok : Nat → Prop} (hT : ∀ b, okT b → ok b) (hl : ∀ b, L ≤ b → ok b) : CtxL W ok p c :=
  ⟨h.ty.keep fun b hb _ => ⟨rfl, hT b hb⟩, own_lst iv (fun _ => rfl) h.o1 rfl fun b hb => hl b (rowLt h.o1 b hb).1, own_lst vv (fun _ => varR_at.2 rfl) h.o2 rfl fun b hb => hl b (rowLt h.o2 b hb).1, own_lst lv (fun _ => limR_at.2 rfl) h.o3 rfl fun b hb => hl b (rowLt h.o3 b hb).1, own_lst lv (fun _ => limR_at.2 rfl) h.o4 rfl fun b hb => hl b (rowLt h.o4 b hb).1⟩
theorem CS.cell (h : CS W L M okT p c) (i : Nat) : W.cell? ⟨M, i, none⟩ = (p.vals c)[i]? := by
  rw [blk_cell h.box]; simp
theorem CS.free (h : CS W L M okT p c) (i : Nat) : W.frozen? ⟨M, i, none⟩ = false := blk_free h.box i
structure Pushed (W W2 : World) (L M i : Nat) (okT : Nat → Prop) (v : Value) (p : Plc) (c c' : GCtx) : Prop where
  cell : W2.cell? ⟨M, i, none⟩ = (p.vals c)[i]?
  free : W2.frozen? ⟨M, i, none⟩ = false
  st : ∃ p', CS (W2.setCell ⟨M, i, none⟩ v) L M okT p' c' ∧ p'.A0 = p.A0 ∧ p'.d0 = p.d0
  below : Below M W (W2.setCell ⟨M, i, none⟩ v)
theorem CS.push1 (h : CS W L M okT p c) {ys : List Int} {A' : Option Addr} {c' n' : Nat} {W2 : World} (hn : n' = c.funcs.length + ys.length) (ho : W2.ownsRow L 3 1 (.slice A' n' c') n' (c.funcs.flatMap iv ++ ys.flatMap iv)) (hg : W.grownBy W2 (Value.slice p.A1 c.funcs.length p.d1).ownBlock) (hob : (Value.slice A' n' c').ownBlock = (Value.slice p.A1 c.funcs.length p.d1).ownBlock ∨ (Value.slice A' n' c').ownBlock = some W.heap.size) :
    Pushed W W2 L M 1 okT (.slice A' n' c') p c { c with funcs := c.funcs ++ ys } := by
  subst hn
  have hMs : M < W.heap.size := by have := h.lt; have := h.hL; omega
  have hown : ∀ b, (Value.slice p.A1 c.funcs.length p.d1).ownBlock = some b → L ≤ b ∧ b < W.heap.size := fun b hb => rowLt h.o1 b hb
  have far : ∀ b, b < W.heap.size → (∀ g, (Value.slice p.A1 c.funcs.length p.d1).ownBlock = some g → b ≠ g) → W2.heap[b]? = W.heap[b]? := fun b h1 h2 => hg.block b h1 fun e => h2 b e.symm rfl
  have hM : W2.heap[M]? = W.heap[M]? := far M hMs fun g hgg => by have := hown g hgg; have := h.lt; omega
  have far2 : ∀ b, b < W.heap.size → b ≠ M → (∀ g, (Value.slice p.A1 c.funcs.length p.d1).ownBlock = some g → b ≠ g) → (W2.setCell ⟨M, 1, none⟩ (.slice A' (c.funcs.length + ys.length) c')).heap[b]? = W.heap[b]? := fun b h1 h2 h3 => (far_set (fun e => h2 e.symm) _).trans (far b h1 h3)
  refine ⟨?_, ?_, ⟨{ p with A1 := A', d1 := c' }, ⟨?_, ?_, h.oT, h.lt, ?_, ?_, ?_, ?_, ?_, ?_⟩, rfl, rfl⟩, ?_⟩
  · rw [World.cell?_of_block hM]; exact h.cell 1
  · rw [World.frozen?_of_block hM]; exact h.free 1
  · rw [blk_set (hM.trans h.box)]
    simp [Plc.vals]
  · exact h.ty.keep fun b hb hlt => ⟨far2 b hlt (h.oT b hb).2 fun g hgg => by have := hown g hgg; have := (h.oT b hb).1; omega, hb⟩
  · have := hg.size; have := h.hL; simp; omega
  · have e : (c.funcs ++ ys).flatMap iv = c.funcs.flatMap iv ++ ys.flatMap iv := List.flatMap_append
    simp only [List.length_append]
    rw [e]
    refine rowSame ho fun g hgg => far_set ?_ _
    have := (rowLt ho g hgg).1
    have := h.lt
    simp; omega
  · refine rowSame h.o2 fun g hgg => far2 g (rowLt h.o2 g hgg).2 (by have := (rowLt h.o2 g hgg).1; have := h.lt; omega) fun g2 hg2 e => ?_
    subst e
    exact rowNe h.o1 h.o2 (by decide) g hg2 hgg
  · refine rowSame h.o3 fun g hgg => far2 g (rowLt h.o3 g hgg).2 (by have := (rowLt h.o3 g hgg).1; have := h.lt; omega) fun g2 hg2 e => ?_
    subst e
    exact rowNe h.o1 h.o3 (by decide) g hg2 hgg
  · refine rowSame h.o4 fun g hgg => far2 g (rowLt h.o4 g hgg).2 (by have := (rowLt h.o4 g hgg).1; have := h.lt; omega) fun g2 hg2 e => ?_
    subst e
    exact rowNe h.o1 h.o4 (by decide) g hg2 hgg
  · exact h.apart
  · exact ⟨hg.os, hg.tape, hg.output, by simpa using hg.size, fun b hb => far2 b (by omega) (by omega) fun g hgg => by have := hown g hgg; have := h.lt; omega⟩
theorem CS.push2 (h : CS W L M okT p c) {ys : List GVar} {A' : Option Addr} {c' n' : Nat} {W2 : World} (hn : n' = c.globs.length + ys.length) (ho : W2.ownsRow L 101 2 (.slice A' n' c') n' (c.globs.flatMap vv ++ ys.flatMap vv)) (hg : W.grownBy W2 (Value.slice p.A2 c.globs.length p.d2).ownBlock) (hob : (Value.slice A' n' c').ownBlock = (Value.slice p.A2 c.globs.length p.d2).ownBlock ∨ (Value.slice A' n' c').ownBlock = some W.heap.size) :
    Pushed W W2 L M 2 okT (.slice A' n' c') p c { c with globs := c.globs ++ ys } := by
  subst hn
  have hMs : M < W.heap.size := by have := h.lt; have := h.hL; omega
  have hown : ∀ b, (Value.slice p.A2 c.globs.length p.d2).ownBlock = some b → L ≤ b ∧ b < W.heap.size := fun b hb => rowLt h.o2 b hb
  have far : ∀ b, b < W.heap.size → (∀ g, (Value.slice p.A2 c.globs.length p.d2).ownBlock = some g → b ≠ g) → W2.heap[b]? = W.heap[b]? := fun b h1 h2 => hg.block b h1 fun e => h2 b e.symm rfl
  have hM : W2.heap[M]? = W.heap[M]? := far M hMs fun g hgg => by have := hown g hgg; have := h.lt; omega
  have far2 : ∀ b, b < W.heap.size → b ≠ M → (∀ g, (Value.slice p.A2 c.globs.length p.d2).ownBlock = some g → b ≠ g) → (W2.setCell ⟨M, 2, none⟩ (.slice A' (c.globs.length + ys.length) c')).heap[b]? = W.heap[b]? := fun b h1 h2 h3 => (far_set (fun e => h2 e.symm) _).trans (far b h1 h3)
  refine ⟨?_, ?_, ⟨{ p with A2 := A', d2 := c' }, ⟨?_, ?_, h.oT, h.lt, ?_, ?_, ?_, ?_, ?_, ?_⟩, rfl, rfl⟩, ?_⟩
  · rw [World.cell?_of_block hM]; exact h.cell 2
  · rw [World.frozen?_of_block hM]; exact h.free 2
  · rw [blk_set (hM.trans h.box)]
    simp [Plc.vals]
  · exact h.ty.keep fun b hb hlt => ⟨far2 b hlt (h.oT b hb).2 fun g hgg => by have := hown g hgg; have := (h.oT b hb).1; omega, hb⟩
  · have := hg.size; have := h.hL; simp; omega
  · refine rowSame h.o1 fun g hgg => far2 g (rowLt h.o1 g hgg).2 (by have := (rowLt h.o1 g hgg).1; have := h.lt; omega) fun g2 hg2 e => ?_
    subst e
    exact rowNe h.o2 h.o1 (by decide) g hg2 hgg
  · have e : (c.globs ++ ys).flatMap vv = c.globs.flatMap vv ++ ys.flatMap vv := List.flatMap_append
    simp only [List.length_append]
    rw [e]
    refine rowSame ho fun g hgg => far_set ?_ _
    have := (rowLt ho g hgg).1
    have := h.lt
    simp; omega
  · refine rowSame h.o3 fun g hgg => far2 g (rowLt h.o3 g hgg).2 (by have := (rowLt h.o3 g hgg).1; have := h.lt; omega) fun g2 hg2 e => ?_
    subst e
    exact rowNe h.o2 h.o3 (by decide) g hg2 hgg
  · refine rowSame h.o4 fun g hgg => far2 g (rowLt h.o4 g hgg).2 (by have := (rowLt h.o4 g hgg).1; have := h.lt; omega) fun g2 hg2 e => ?_
    subst e
    exact rowNe h.o2 h.o4 (by decide) g hg2 hgg
  · exact h.apart
  · exact ⟨hg.os, hg.tape, hg.output, by simpa using hg.size, fun b hb => far2 b (by omega) (by omega) fun g hgg => by have := hown g hgg; have := h.lt; omega⟩
theorem CS.push3 (h : CS W L M okT p c) {ys : List GLim} {A' : Option Addr} {c' n' : Nat} {W2 : World} (hn : n' = c.tabs.length + ys.length) (ho : W2.ownsRow L 44 3 (.slice A' n' c') n' (c.tabs.flatMap lv ++ ys.flatMap lv)) (hg : W.grownBy W2 (Value.slice p.A3 c.tabs.length p.d3).ownBlock) (hob : (Value.slice A' n' c').ownBlock = (Value.slice p.A3 c.tabs.length p.d3).ownBlock ∨ (Value.slice A' n' c').ownBlock = some W.heap.size) :
    Pushed W W2 L M 3 okT (.slice A' n' c') p c { c with tabs := c.tabs ++ ys } := by
  subst hn
  have hMs : M < W.heap.size := by have := h.lt; have := h.hL; omega
  have hown : ∀ b, (Value.slice p.A3 c.tabs.length p.d3).ownBlock = some b → L ≤ b ∧ b < W.heap.size := fun b hb => rowLt h.o3 b hb
  have far : ∀ b, b < W.heap.size → (∀ g, (Value.slice p.A3 c.tabs.length p.d3).ownBlock = some g → b ≠ g) → W2.heap[b]? = W.heap[b]? := fun b h1 h2 => hg.block b h1 fun e => h2 b e.symm rfl
  have hM : W2.heap[M]? = W.heap[M]? := far M hMs fun g hgg => by have := hown g hgg; have := h.lt; omega
  have far2 : ∀ b, b < W.heap.size → b ≠ M → (∀ g, (Value.slice p.A3 c.tabs.length p.d3).ownBlock = some g → b ≠ g) → (W2.setCell ⟨M, 3, none⟩ (.slice A' (c.tabs.length + ys.length) c')).heap[b]? = W.heap[b]? := fun b h1 h2 h3 => (far_set (fun e => h2 e.symm) _).trans (far b h1 h3)
  refine ⟨?_, ?_, ⟨{ p with A3 := A', d3 := c' }, ⟨?_, ?_, h.oT, h.lt, ?_, ?_, ?_, ?_, ?_, ?_⟩, rfl, rfl⟩, ?_⟩
  · rw [World.cell?_of_block hM]; exact h.cell 3
  · rw [World.frozen?_of_block hM]; exact h.free 3
  · rw [blk_set (hM.trans h.box)]
    simp [Plc.vals]
  · exact h.ty.keep fun b hb hlt => ⟨far2 b hlt (h.oT b hb).2 fun g hgg => by have := hown g hgg; have := (h.oT b hb).1; omega, hb⟩
  · have := hg.size; have := h.hL; simp; omega
  · refine rowSame h.o1 fun g hgg => far2 g (rowLt h.o1 g hgg).2 (by have := (rowLt h.o1 g hgg).1; have := h.lt; omega) fun g2 hg2 e => ?_
    subst e
    exact rowNe h.o3 h.o1 (by decide) g hg2 hgg
  · refine rowSame h.o2 fun g hgg => far2 g (rowLt h.o2 g hgg).2 (by have := (rowLt h.o2 g hgg).1; have := h.lt; omega) fun g2 hg2 e => ?_
    subst e
    exact rowNe h.o3 h.o2 (by decide) g hg2 hgg
  · have e : (c.tabs ++ ys).flatMap lv = c.tabs.flatMap lv ++ ys.flatMap lv := List.flatMap_append
    simp only [List.length_append]
    rw [e]
    refine rowSame ho fun g hgg => far_set ?_ _
    have := (rowLt ho g hgg).1
    have := h.lt
    simp; omega
  · refine rowSame h.o4 fun g hgg => far2 g (rowLt h.o4 g hgg).2 (by have := (rowLt h.o4 g hgg).1; have := h.lt; omega) fun g2 hg2 e => ?_
    subst e
    exact h.apart g hg2 hgg
  · intro b hb hb2
    simp only [List.length_append] at hb
    rcases hob with h1 | h1
    · exact h.apart b (h1.symm.trans hb) hb2
    · rw [h1] at hb; injection hb with hb; have := (rowLt h.o4 b hb2).2; omega
  · exact ⟨hg.os, hg.tape, hg.output, by simpa using hg.size, fun b hb => far2 b (by omega) (by omega) fun g hgg => by have := hown g hgg; have := h.lt; omega⟩
theorem CS.push4 (h : CS W L M okT p c) {ys : List GLim} {A' : Option Addr} {c' n' : Nat} {W2 : World} (hn : n' = c.mems.length + ys.length) (ho : W2.ownsRow L 44 3 (.slice A' n' c') n' (c.mems.flatMap lv ++ ys.flatMap lv)) (hg : W.grownBy W2 (Value.slice p.A4 c.mems.length p.d4).ownBlock) (hob : (Value.slice A' n' c').ownBlock = (Value.slice p.A4 c.mems.length p.d4).ownBlock ∨ (Value.slice A' n' c').ownBlock = some W.heap.size) :
    Pushed W W2 L M 4 okT (.slice A' n' c') p c { c with mems := c.mems ++ ys } := by
  subst hn
  have hMs : M < W.heap.size := by have := h.lt; have := h.hL; omega
  have hown : ∀ b, (Value.slice p.A4 c.mems.length p.d4).ownBlock = some b → L ≤ b ∧ b < W.heap.size := fun b hb => rowLt h.o4 b hb
  have far : ∀ b, b < W.heap.size → (∀ g, (Value.slice p.A4 c.mems.length p.d4).ownBlock = some g → b ≠ g) → W2.heap[b]? = W.heap[b]? := fun b h1 h2 => hg.block b h1 fun e => h2 b e.symm rfl
  have hM : W2.heap[M]? = W.heap[M]? := far M hMs fun g hgg => by have := hown g hgg; have := h.lt; omega
  have far2 : ∀ b, b < W.heap.size → b ≠ M → (∀ g, (Value.slice p.A4 c.mems.length p.d4).ownBlock = some g → b ≠ g) → (W2.setCell ⟨M, 4, none⟩ (.slice A' (c.mems.length + ys.length) c')).heap[b]? = W.heap[b]? := fun b h1 h2 h3 => (far_set (fun e => h2 e.symm) _).trans (far b h1 h3)
  refine ⟨?_, ?_, ⟨{ p with A4 := A', d4 := c' }, ⟨?_, ?_, h.oT, h.lt, ?_, ?_, ?_, ?_, ?_, ?_⟩, rfl, rfl⟩, ?_⟩
  · rw [World.cell?_of_block hM]; exact h.cell 4
  · rw [World.frozen?_of_block hM]; exact h.free 4
  · rw [blk_set (hM.trans h.box)]
    simp [Plc.vals]
  · exact h.ty.keep fun b hb hlt => ⟨far2 b hlt (h.oT b hb).2 fun g hgg => by have := hown g hgg; have := (h.oT b hb).1; omega, hb⟩
  · have := hg.size; have := h.hL; simp; omega
  · refine rowSame h.o1 fun g hgg => far2 g (rowLt h.o1 g hgg).2 (by have := (rowLt h.o1 g hgg).1; have := h.lt; omega) fun g2 hg2 e => ?_
    subst e
    exact rowNe h.o4 h.o1 (by decide) g hg2 hgg
  · refine rowSame h.o2 fun g hgg => far2 g (rowLt h.o2 g hgg).2 (by have := (rowLt h.o2 g hgg).1; have := h.lt; omega) fun g2 hg2 e => ?_
    subst e
    exact rowNe h.o4 h.o2 (by decide) g hg2 hgg
  · refine rowSame h.o3 fun g hgg => far2 g (rowLt h.o3 g hgg).2 (by have := (rowLt h.o3 g hgg).1; have := h.lt; omega) fun g2 hg2 e => ?_
    subst e
    exact h.apart g hgg hg2
  · have e : (c.mems ++ ys).flatMap lv = c.mems.flatMap lv ++ ys.flatMap lv := List.flatMap_append
    simp only [List.length_append]
    rw [e]
    refine rowSame ho fun g hgg => far_set ?_ _
    have := (rowLt ho g hgg).1
    have := h.lt
    simp; omega
  · intro b hb hb2
    simp only [List.length_append] at hb2
    rcases hob with h1 | h1
    · exact h.apart b hb (h1.symm.trans hb2)
    · rw [h1] at hb2; injection hb2 with hb2; have := (rowLt h.o3 b hb).2; omega
  · exact ⟨hg.os, hg.tape, hg.output, by simpa using hg.size, fun b hb => far2 b (by omega) (by omega) fun g hgg => by have := hown g hgg; have := h.lt; omega⟩
end
end Go.Proofs.Ytdcolpmmojiffaa.Cx
