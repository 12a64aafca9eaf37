/-
  CtxGath: ctx.gather: what a module's parts gather to. Conditions: the module lies in memory; its lists are not too long. (Written by wip/tools/genctxgath.py.)
-/
import Derived.Test.YtdcolpmmojiffaaQCtxAnew
import Derived.Test.YtdcolpmmojiffaaQCtxImp
import Derived.Deep.RegionHeld
namespace Go.Proofs.Ytdcolpmmojiffaa.Cx
open Go.RowKit Leb
open _root_.Go.Proofs.Ytdcolpmmojiffaa.Mod

theorem own_lst2 {α : Type} {R : Rep α} {w : World} {base n : Nat} {t : TypeId} {A : Option Addr} {c : Nat} {xs : List α} (f : α → List Value) {ok : Nat → Prop} (hk : ∀ x, (f x).length = R.k) (hf : ∀ x ∈ xs, R.at_ w ok (f x) x) (h : w.ownsRow base t R.k (.slice A n c) n (xs.flatMap f)) (hn : n = xs.length) (ho : ∀ b, (Value.slice A n c).ownBlock = some b → ok b) : Lst R w ok A c xs := by
  subst hn
  rcases h.2 with ⟨e, h0⟩ | ⟨g, cap, cur, e, hb, h2, h3, h4, h5, h6⟩
  · injection e with e1 _ e3
    subst e1 e3
    have : xs = [] := List.length_eq_zero_iff.1 h0
    subst this
    exact lst_none _ _ _
  · injection e with e1 _ e3
    subst e1 e3
    refine ⟨fun hl => ⟨g, 0, rfl, ho g rfl, fun j hj => ⟨f xs[j], hf _ (List.getElem_mem hj), fun i hi => ?_⟩⟩, (fun e => by cases e), h3⟩
    rw [blk_cell h2, Nat.zero_add]
    have hi' : i < R.k := by rw [← hk xs[j]]; exact hi
    have hlt : j * R.k + i < xs.length * R.k := by
      have : (j + 1) * R.k ≤ xs.length * R.k := Nat.mul_le_mul_right _ hj
      rw [Nat.succ_mul] at this
      omega
    have h7 := flat_at f _ hk xs j i hj hi'
    rw [List.getElem?_eq_getElem hi, ← h6, List.getElem?_take, if_pos hlt] at h7
    rw [← h7]
    simp
theorem lst_map {α β : Type} {R : Rep α} {f : β → α} {w : World} {ok : Nat → Prop} {A : Option Addr} {c : Nat} {xs : List β} (h : Lst (mapR f R) w ok A c xs) : Lst R w ok A c (xs.map f) := by
  refine ⟨fun hl => ?_, h.nil, by simpa using h.room⟩
  obtain ⟨b, off, e, hb, hc⟩ := h.row (by simpa using hl)
  refine ⟨b, off, e, hb, fun j hj => ?_⟩
  obtain ⟨us, h1, h2⟩ := hc j (by simpa using hj)
  exact ⟨us, by rw [List.getElem_map]; exact h1, h2⟩
abbrev TEnt : Type := GFt × (Option Addr × Nat) × Option Addr × Nat
def tv (e : TEnt) : List Value := [.slice e.2.1.1 e.1.1.length e.2.1.2, .slice e.2.2.1 e.1.2.length e.2.2.2]
def Lab (W : World) (M : Nat) (o : Option Nat) (e : TEnt) : Prop := Lst intR W (fun b => M < b ∧ o ≠ some b) e.2.1.1 e.2.1.2 e.1.1 ∧ Lst intR W (fun b => M < b ∧ o ≠ some b) e.2.2.1 e.2.2.2 e.1.2
def pT (A0 : Option Addr) (d0 : Nat) : Plc := ⟨A0, none, none, none, none, d0, 0, 0, 0, 0⟩
def cT (g : GMd) (ts : List GFt) : GCtx := ⟨ts, [], [], [], [], 0, 0, g.els.length, g.dats.length, decide (0 < g.counts.length)⟩
structure CT (W : World) (M : Nat) (g : GMd) (A0 : Option Addr) (d0 : Nat) (es : List TEnt) : Prop where
  box : W.heap[M]? = some (.cells ((pT A0 d0).vals (cT g (es.map (fun e => e.1)))).toArray 66 (0, 0))
  lt : M < W.heap.size
  own : W.ownsRow (M + 1) 94 2 (.slice A0 es.length d0) es.length (es.flatMap tv)
  lab : ∀ e ∈ es, Lab W M (Value.slice A0 es.length d0).ownBlock e
section
variable {W : World} {M : Nat} {g : GMd} {A0 : Option Addr} {d0 : Nat} {es : List TEnt}
theorem CT.below (h : CT W M g A0 d0 es) {W' : World} (hb : Below W.heap.size W W') : CT W' M g A0 d0 es :=
  ⟨(hb.block M h.lt).trans h.box, Nat.lt_of_lt_of_le h.lt hb.size, rowSame h.own fun g hg => hb.block g (rowLt h.own g hg).2, fun e he => ⟨lst_below (h.lab e he).1 hb, lst_below (h.lab e he).2 hb⟩⟩
theorem CT.cell (h : CT W M g A0 d0 es) : W.cell? ⟨M, 0, none⟩ = some (.slice A0 es.length d0) := by
  rw [blk_cell h.box]; simp [Plc.vals, pT, cT]
theorem CT.free (h : CT W M g A0 d0 es) : W.frozen? ⟨M, 0, none⟩ = false := blk_free h.box 0
theorem ct_new {w3 : World} (hb : w3.heap[M]? = some (.cells ((pT none 0).vals (cT g [])).toArray 66 (0, 0))) (hM : M < w3.heap.size) : CT w3 M g none 0 [] := ⟨hb, hM, own_nil _ _ _ _, fun e he => by cases he⟩
theorem CT.fin (h : CT W M g A0 d0 es) (hts : es.map (fun e => e.1) = g.types) : CS W W.heap.size M (fun b => M < b ∧ b < W.heap.size) (pT A0 d0) (gath0 g) := by
  have e : cT g (es.map (fun e => e.1)) = gath0 g := by rw [hts]; rfl
  refine ⟨e ▸ h.box, ?_, fun b hb => ⟨hb.2, by omega⟩, h.lt, Nat.le_refl _, own_nil _ _ _ _, own_nil _ _ _ _, own_nil _ _ _ _, own_nil _ _ _ _, fun b hb => by cases hb⟩
  show Lst ftR W _ A0 d0 g.types
  rw [← hts]
  refine lst_map (own_lst2 (R := mapR (fun e : TEnt => e.1) ftR) tv (fun _ => rfl) (fun x hx => ?_) h.own rfl fun b hb => ⟨(rowLt h.own b hb).1, (rowLt h.own b hb).2⟩)
  refine ftR_at.2 ⟨_, _, _, _, rfl, ?_, ?_⟩
  · exact (h.lab x hx).1.keep fun b hb hlt => ⟨rfl, hb.1, hlt⟩
  · exact (h.lab x hx).2.keep fun b hb hlt => ⟨rfl, hb.1, hlt⟩
theorem CT.push (h : CT W M g A0 d0 es) {e : TEnt} (hl : Lab W M (Value.slice A0 es.length d0).ownBlock e) {A' : Option Addr} {d' : Nat} {W2 : World} (ho : W2.ownsRow (M + 1) 94 2 (.slice A' (es.length + 1) d') (es.length + 1) (es.flatMap tv ++ tv e)) (hg : W.grownBy W2 (Value.slice A0 es.length d0).ownBlock) (hob : (Value.slice A' (es.length + 1) d').ownBlock = (Value.slice A0 es.length d0).ownBlock ∨ (Value.slice A' (es.length + 1) d').ownBlock = some W.heap.size) :
    W2.cell? ⟨M, 0, none⟩ = some (.slice A0 es.length d0) ∧ W2.frozen? ⟨M, 0, none⟩ = false ∧ CT (W2.setCell ⟨M, 0, none⟩ (.slice A' (es.length + 1) d')) M g A' d' (es ++ [e]) ∧ Below M W (W2.setCell ⟨M, 0, none⟩ (.slice A' (es.length + 1) d')) := by
  have hown : ∀ b, (Value.slice A0 es.length d0).ownBlock = some b → M + 1 ≤ b ∧ b < W.heap.size := fun b hb => rowLt h.own b hb
  have far : ∀ b, b < W.heap.size → (∀ g, (Value.slice A0 es.length d0).ownBlock = some g → b ≠ g) → W2.heap[b]? = W.heap[b]? := fun b h1 h2 => hg.block b h1 fun e => h2 b e.symm rfl
  have hM : W2.heap[M]? = W.heap[M]? := far M h.lt fun g hgg => by have := hown g hgg; omega
  have far2 : ∀ b, b < W.heap.size → b ≠ M → (∀ g, (Value.slice A0 es.length d0).ownBlock = some g → b ≠ g) → (W2.setCell ⟨M, 0, none⟩ (.slice A' (es.length + 1) d')).heap[b]? = W.heap[b]? := fun b h1 h2 h3 => (far_set (fun e => h2 e.symm) _).trans (far b h1 h3)
  have hkeep : ∀ x, Lab W M (Value.slice A0 es.length d0).ownBlock x → Lab (W2.setCell ⟨M, 0, none⟩ (.slice A' (es.length + 1) d')) M (Value.slice A' (es.length + 1) d').ownBlock x := fun x hx => by
    have key : ∀ b, (M < b ∧ (Value.slice A0 es.length d0).ownBlock ≠ some b) → b < W.heap.size → (W2.setCell ⟨M, 0, none⟩ (.slice A' (es.length + 1) d')).heap[b]? = W.heap[b]? ∧ M < b ∧ (Value.slice A' (es.length + 1) d').ownBlock ≠ some b := fun b hb hlt => by
      refine ⟨far2 b hlt (by omega) fun g hgg e => hb.2 (e ▸ hgg), hb.1, fun e => ?_⟩
      rcases hob with h1 | h1
      · exact hb.2 (h1.symm.trans e)
      · rw [h1] at e; injection e with e; omega
    exact ⟨hx.1.keep key, hx.2.keep key⟩
  refine ⟨?_, ?_, ⟨?_, ?_, ?_, ?_⟩, ?_⟩
  · rw [World.cell?_of_block hM]; exact h.cell
  · rw [World.frozen?_of_block hM]; exact h.free
  · rw [blk_set (hM.trans h.box)]
    simp [Plc.vals, pT, cT]
  · have := hg.size; have := h.lt; simp; omega
  · have e1 : (es ++ [e]).flatMap tv = es.flatMap tv ++ tv e := by simp
    have e2 : (es ++ [e]).length = es.length + 1 := by simp
    rw [e1, e2]
    refine rowSame ho fun g hgg => far_set ?_ _
    have := (rowLt ho g hgg).1
    simp; omega
  · intro x hx
    have e2 : (es ++ [e]).length = es.length + 1 := by simp
    rw [e2]
    rcases List.mem_append.1 hx with hx | hx
    · exact hkeep x (h.lab x hx)
    · have : x = e := by simpa using hx
      rw [this]; exact hkeep e hl
  · exact ⟨hg.os, hg.tape, hg.output, by simpa using hg.size, fun b hb => far2 b (by have := h.lt; omega) (by omega) fun g hgg => by have := hown g hgg; omega⟩
end
section
variable {W : World} {L M : Nat} {okT : Nat → Prop} {p : Plc} {c : GCtx}
theorem CS.hosts (h : CS W L M okT p c) (a b : Int) : CS ((W.setCell ⟨M, 5, none⟩ (.int .i64 a)).setCell ⟨M, 6, none⟩ (.int .i64 b)) L M okT p { c with hosts := a, vars := b } ∧ Below M W ((W.setCell ⟨M, 5, none⟩ (.int .i64 a)).setCell ⟨M, 6, none⟩ (.int .i64 b)) := by
  have far : ∀ q, q ≠ M → ((W.setCell ⟨M, 5, none⟩ (.int .i64 a)).setCell ⟨M, 6, none⟩ (.int .i64 b)).heap[q]? = W.heap[q]? := fun q hq => by rw [far_set (fun e => hq e.symm), far_set (fun e => hq e.symm)]
  have ne : ∀ g, L ≤ g → g ≠ M := fun g hg => by have := h.lt; omega
  refine ⟨⟨?_, h.ty.keep fun b hb _ => ⟨far b (h.oT b hb).2, hb⟩, h.oT, h.lt, by simpa using h.hL, rowSame h.o1 fun g hg => far g (ne g (rowLt h.o1 g hg).1), rowSame h.o2 fun g hg => far g (ne g (rowLt h.o2 g hg).1), rowSame h.o3 fun g hg => far g (ne g (rowLt h.o3 g hg).1), rowSame h.o4 fun g hg => far g (ne g (rowLt h.o4 g hg).1), h.apart⟩, rfl, rfl, rfl, by simp, fun q hq => far q (by omega)⟩
  rw [blk_set (blk_set h.box 5 _) 6]
  simp [Plc.vals]
end
def BoxG (b : Nat) (V : World) (g : GMd) (p : Pls) : Prop := V.cell? ⟨b, 0, none⟩ = some (.slice p.A0 g.types.length p.c0) ∧ V.cell? ⟨b, 1, none⟩ = some (.slice p.A1 g.imps.length p.c1) ∧ V.cell? ⟨b, 2, none⟩ = some (.slice p.A2 g.funcs.length p.c2) ∧ V.cell? ⟨b, 3, none⟩ = some (.slice p.A3 g.tabs.length p.c3) ∧ V.cell? ⟨b, 4, none⟩ = some (.slice p.A4 g.mems.length p.c4) ∧ V.cell? ⟨b, 5, none⟩ = some (.slice p.A5 g.globs.length p.c5) ∧ V.cell? ⟨b, 6, none⟩ = some (.slice p.A6 g.expos.length p.c6) ∧ V.cell? ⟨b, 7, none⟩ = some (.slice p.A7 g.starts.length p.c7) ∧ V.cell? ⟨b, 8, none⟩ = some (.slice p.A8 g.els.length p.c8) ∧ V.cell? ⟨b, 9, none⟩ = some (.slice p.A9 g.counts.length p.c9) ∧ V.cell? ⟨b, 10, none⟩ = some (.slice p.A10 g.dats.length p.c10) ∧ V.cell? ⟨b, 11, none⟩ = some (.slice p.A11 g.cuss.length p.c11)
structure Sm (g : GMd) : Prop where
  types : g.types.length ≤ 100
  imps : g.imps.length ≤ 100
  funcs : g.funcs.length ≤ 100
  tabs : g.tabs.length ≤ 100
  mems : g.mems.length ≤ 100
  globs : g.globs.length ≤ 100
  expos : g.expos.length ≤ 100
  starts : g.starts.length ≤ 100
  els : g.els.length ≤ 100
  dats : g.dats.length ≤ 100
  ft : ∀ x ∈ g.types, x.1.length ≤ 3000 ∧ x.2.length ≤ 3000
  fn : ∀ x ∈ g.funcs, x.locals.length ≤ 3000
  el : ∀ x ∈ g.els, x.fs.length ≤ 3000
  ex : ∀ x ∈ g.expos, x.nm.size ≤ maxLen
theorem fold_few (l : List GImp) (c : GCtx) (n : Nat) (h : Few c n) : Few (l.foldl addI c) (n + l.length) := by
  induction l generalizing c n with
  | nil => exact h
  | cons x l ih => have := ih (addI c x) (n + 1) (few_add h x); rw [List.foldl_cons, List.length_cons]; rwa [show n + (l.length + 1) = n + 1 + l.length from by omega]
theorem few_mono {c : GCtx} {n m : Nat} (h : Few c n) (hm : n ≤ m) : Few c m := ⟨by have := h.1; omega, by have := h.2.1; omega, by have := h.2.2.1; omega, by have := h.2.2.2; omega⟩
theorem fold_take (g : GMd) (j : Nat) (hj : j < g.imps.length) (c : GCtx) : (g.imps.take (j + 1)).foldl addI c = addI ((g.imps.take j).foldl addI c) g.imps[j] := by
  rw [List.take_succ_eq_append_getElem hj, List.foldl_append]; rfl
def GathIs (w : World) (g : GMd) (en : Ending) (w' : World) : Prop := ∃ p', en = .returned (.agg (p'.vals (gather g)).toArray) ∧ CtxL w' (fun b => w.heap.size ≤ b) p' (gather g) ∧ Below w.heap.size w w'
def setsL (W : World) (b : Nat) (i : Nat) : List Value → World
  | [] => W
  | v :: vs => setsL (W.setCell ⟨b, i, none⟩ v) b (i + 1) vs
theorem setsL_far (W : World) (b q : Nat) (hq : q ≠ b) (vs : List Value) (i : Nat) : (setsL W b i vs).heap[q]? = W.heap[q]? := by
  induction vs generalizing W i with
  | nil => rfl
  | cons v vs ih => exact (ih _ _).trans (far_set (fun e => hq e.symm) _)
theorem setsL_below (W : World) (b : Nat) (vs : List Value) (i : Nat) {B : Nat} (hb : B ≤ b) : Below B W (setsL W b i vs) := by
  induction vs generalizing W i with
  | nil => exact Below.refl _ _
  | cons v vs ih =>
    have h1 : Below B W (W.setCell ⟨b, i, none⟩ v) := ⟨rfl, rfl, rfl, by simp, fun q hq => far_set (p := ⟨b, i, none⟩) (show b ≠ q by omega) _⟩
    exact h1.trans (ih _ _)
theorem setsL_ctx {W : World} {b : Nat} {a0 a1 a2 a3 a4 a5 a6 a7 a8 a9 : Value} {t : TypeId} {fz : Nat × Nat} (h : W.heap[b]? = some (.cells #[a0, a1, a2, a3, a4, a5, a6, a7, a8, a9] t fz)) (p : Plc) (c : GCtx) : (setsL W b 0 (p.vals c)).heap[b]? = some (.cells (p.vals c).toArray t fz) := by
  have h1 := blk_set (blk_set (blk_set (blk_set (blk_set (blk_set (blk_set (blk_set (blk_set (blk_set h 0 (.slice p.A0 c.types.length p.d0)) 1 (.slice p.A1 c.funcs.length p.d1)) 2 (.slice p.A2 c.globs.length p.d2)) 3 (.slice p.A3 c.tabs.length p.d3)) 4 (.slice p.A4 c.mems.length p.d4)) 5 (.int .i64 c.hosts)) 6 (.int .i64 c.vars)) 7 (.int .i64 c.els)) 8 (.int .i64 c.dats)) 9 (.bool c.counted)
  simp only [List.setIfInBounds_toArray, List.set_cons_zero, List.set_cons_succ] at h1
  exact h1
theorem ones_l (xs : List GLim) : ∀ u ∈ xs.flatMap lv, u.oneCell' = true := fun u hu => by
  obtain ⟨x, _, h⟩ := List.mem_flatMap.1 hu
  have : u = .int .i64 x.1 ∨ u = .bool x.2.1 ∨ u = .int .i64 x.2.2 := by simpa [lv] using h
  rcases this with rfl | rfl | rfl <;> rfl
theorem src_at (w : World) (cs : Array Value) (t : TypeId) (k : Nat) (hk : cs.size = k) {n : Nat} (hn : n = w.heap.size) : Src (w.alloc (.cells cs t)) k (some ⟨n, 0, none⟩) 1 1 cs.toList := by
  subst hn; exact src_new w cs t k hk
theorem boxF_keep {b : Nat} {A1 A2 : Option Addr} {n1 n2 c1 c2 : Nat} {V V' : World} (h : BoxF b A1 A2 n1 n2 c1 c2 V) (e : V'.heap[b]? = V.heap[b]?) : BoxF b A1 A2 n1 n2 c1 c2 V' := ⟨(World.cell?_of_block (a := ⟨b, 0, none⟩) e).trans h.1, (World.cell?_of_block (a := ⟨b, 1, none⟩) e).trans h.2⟩
structure AftA (V V1 : World) (M : Nat) (g : GMd) (A0 : Option Addr) (d0 : Nat) (es : List TEnt) (x : GFt) (B1 : Option Addr) (d1 : Nat) (B2 : Option Addr) (d2 : Nat) : Prop where
  ct1 : CT V1 M g A0 d0 es
  ctB : CT (V1.alloc (.cells #[.slice B1 x.1.length d1, .slice B2 x.2.length d2] 94)) M g A0 d0 es
  lab : Lab (V1.alloc (.cells #[.slice B1 x.1.length d1, .slice B2 x.2.length d2] 94)) M (Value.slice A0 es.length d0).ownBlock (x, (B1, d1), B2, d2)
  b1 : Below V.heap.size V V1
  bB : Below V.heap.size V (V1.alloc (.cells #[.slice B1 x.1.length d1, .slice B2 x.2.length d2] 94))
theorem aftA {V V1 : World} {M : Nat} {g : GMd} {A0 : Option Addr} {d0 : Nat} {es : List TEnt} {x : GFt} {B1 : Option Addr} {d1 : Nat} {B2 : Option Addr} {d2 : Nat} (h : CT V M g A0 d0 es) (h1 : Lst intR V1 (fun b => V.heap.size ≤ b) B1 d1 x.1) (h2 : Lst intR V1 (fun b => V.heap.size ≤ b) B2 d2 x.2) (hb : Below V.heap.size V V1) : AftA V V1 M g A0 d0 es x B1 d1 B2 d2 := by
  have ha : Below V1.heap.size V1 (V1.alloc (.cells #[.slice B1 x.1.length d1, .slice B2 x.2.length d2] 94)) := (Below.refl _ _).alloc (Nat.le_refl _) _
  have key : ∀ b, V.heap.size ≤ b → b < V1.heap.size → (V1.alloc (.cells #[.slice B1 x.1.length d1, .slice B2 x.2.length d2] 94)).heap[b]? = V1.heap[b]? ∧ M < b ∧ (Value.slice A0 es.length d0).ownBlock ≠ some b := fun b hb1 hlt => ⟨ha.block b hlt, by have := h.lt; omega, fun e => by have := (rowLt h.own b e).2; omega⟩
  exact ⟨h.below hb, (h.below hb).below ha, ⟨h1.keep key, h2.keep key⟩, hb, hb.trans (ha.mono hb.size)⟩
set_option maxRecDepth 100000 in
set_option maxHeartbeats 16000000 in
theorem gather_any (g : GMd) (p : Pls) (w : World) (ok : Nat → Prop) (hl : MdL w ok ok p g) (hs : Sm g) : Calls Try.prog 31 #[.agg #[.slice p.A0 g.types.length p.c0, .slice p.A1 g.imps.length p.c1, .slice p.A2 g.funcs.length p.c2, .slice p.A3 g.tabs.length p.c3, .slice p.A4 g.mems.length p.c4, .slice p.A5 g.globs.length p.c5, .slice p.A6 g.expos.length p.c6, .slice p.A7 g.starts.length p.c7, .slice p.A8 g.els.length p.c8, .slice p.A9 g.counts.length p.c9, .slice p.A10 g.dats.length p.c10, .slice p.A11 g.cuss.length p.c11]] w (GathIs w g) := by
  have hM0 : (((w.alloc (.cells #[.slice p.A0 g.types.length p.c0, .slice p.A1 g.imps.length p.c1, .slice p.A2 g.funcs.length p.c2, .slice p.A3 g.tabs.length p.c3, .slice p.A4 g.mems.length p.c4, .slice p.A5 g.globs.length p.c5, .slice p.A6 g.expos.length p.c6, .slice p.A7 g.starts.length p.c7, .slice p.A8 g.els.length p.c8, .slice p.A9 g.counts.length p.c9, .slice p.A10 g.dats.length p.c10, .slice p.A11 g.cuss.length p.c11] 55)).alloc (.cells #[.slice none 0 0, .slice none 0 0, .slice none 0 0, .slice none 0 0, .slice none 0 0, .int .i64 0, .int .i64 0, .int .i64 0, .int .i64 0, .bool false] 66)).alloc (.cells #[.slice none 0 0, .slice none 0 0, .slice none 0 0, .slice none 0 0, .slice none 0 0, .int .i64 0, .int .i64 0, .int .i64 (g.els.length : Int), .int .i64 (g.dats.length : Int), .bool (decide (0 < g.counts.length))] 66)).heap[w.heap.size + 1 + 1]? = some (.cells ((pT none 0).vals (cT g [])).toArray 66 (0, 0)) := by
    have h := heap_alloc_new ((w.alloc (.cells #[.slice p.A0 g.types.length p.c0, .slice p.A1 g.imps.length p.c1, .slice p.A2 g.funcs.length p.c2, .slice p.A3 g.tabs.length p.c3, .slice p.A4 g.mems.length p.c4, .slice p.A5 g.globs.length p.c5, .slice p.A6 g.expos.length p.c6, .slice p.A7 g.starts.length p.c7, .slice p.A8 g.els.length p.c8, .slice p.A9 g.counts.length p.c9, .slice p.A10 g.dats.length p.c10, .slice p.A11 g.cuss.length p.c11] 55)).alloc (.cells #[.slice none 0 0, .slice none 0 0, .slice none 0 0, .slice none 0 0, .slice none 0 0, .int .i64 0, .int .i64 0, .int .i64 0, .int .i64 0, .bool false] 66)) (.cells #[.slice none 0 0, .slice none 0 0, .slice none 0 0, .slice none 0 0, .slice none 0 0, .int .i64 0, .int .i64 0, .int .i64 (g.els.length : Int), .int .i64 (g.dats.length : Int), .bool (decide (0 < g.counts.length))] 66)
    have e : ((w.alloc (.cells #[.slice p.A0 g.types.length p.c0, .slice p.A1 g.imps.length p.c1, .slice p.A2 g.funcs.length p.c2, .slice p.A3 g.tabs.length p.c3, .slice p.A4 g.mems.length p.c4, .slice p.A5 g.globs.length p.c5, .slice p.A6 g.expos.length p.c6, .slice p.A7 g.starts.length p.c7, .slice p.A8 g.els.length p.c8, .slice p.A9 g.counts.length p.c9, .slice p.A10 g.dats.length p.c10, .slice p.A11 g.cuss.length p.c11] 55)).alloc (.cells #[.slice none 0 0, .slice none 0 0, .slice none 0 0, .slice none 0 0, .slice none 0 0, .int .i64 0, .int .i64 0, .int .i64 0, .int .i64 0, .bool false] 66)).heap.size = w.heap.size + 1 + 1 := by simp
    rw [e] at h
    exact h
  have hR0 : (((w.alloc (.cells #[.slice p.A0 g.types.length p.c0, .slice p.A1 g.imps.length p.c1, .slice p.A2 g.funcs.length p.c2, .slice p.A3 g.tabs.length p.c3, .slice p.A4 g.mems.length p.c4, .slice p.A5 g.globs.length p.c5, .slice p.A6 g.expos.length p.c6, .slice p.A7 g.starts.length p.c7, .slice p.A8 g.els.length p.c8, .slice p.A9 g.counts.length p.c9, .slice p.A10 g.dats.length p.c10, .slice p.A11 g.cuss.length p.c11] 55)).alloc (.cells #[.slice none 0 0, .slice none 0 0, .slice none 0 0, .slice none 0 0, .slice none 0 0, .int .i64 0, .int .i64 0, .int .i64 0, .int .i64 0, .bool false] 66)).alloc (.cells #[.slice none 0 0, .slice none 0 0, .slice none 0 0, .slice none 0 0, .slice none 0 0, .int .i64 0, .int .i64 0, .int .i64 (g.els.length : Int), .int .i64 (g.dats.length : Int), .bool (decide (0 < g.counts.length))] 66)).heap[w.heap.size + 1]? = some (.cells #[.slice none 0 0, .slice none 0 0, .slice none 0 0, .slice none 0 0, .slice none 0 0, .int .i64 0, .int .i64 0, .int .i64 0, .int .i64 0, .bool false] 66 (0, 0)) := by
    have h := heap_alloc_new (w.alloc (.cells #[.slice p.A0 g.types.length p.c0, .slice p.A1 g.imps.length p.c1, .slice p.A2 g.funcs.length p.c2, .slice p.A3 g.tabs.length p.c3, .slice p.A4 g.mems.length p.c4, .slice p.A5 g.globs.length p.c5, .slice p.A6 g.expos.length p.c6, .slice p.A7 g.starts.length p.c7, .slice p.A8 g.els.length p.c8, .slice p.A9 g.counts.length p.c9, .slice p.A10 g.dats.length p.c10, .slice p.A11 g.cuss.length p.c11] 55)) (.cells #[.slice none 0 0, .slice none 0 0, .slice none 0 0, .slice none 0 0, .slice none 0 0, .int .i64 0, .int .i64 0, .int .i64 0, .int .i64 0, .bool false] 66)
    have e : (w.alloc (.cells #[.slice p.A0 g.types.length p.c0, .slice p.A1 g.imps.length p.c1, .slice p.A2 g.funcs.length p.c2, .slice p.A3 g.tabs.length p.c3, .slice p.A4 g.mems.length p.c4, .slice p.A5 g.globs.length p.c5, .slice p.A6 g.expos.length p.c6, .slice p.A7 g.starts.length p.c7, .slice p.A8 g.els.length p.c8, .slice p.A9 g.counts.length p.c9, .slice p.A10 g.dats.length p.c10, .slice p.A11 g.cuss.length p.c11] 55)).heap.size = w.heap.size + 1 := by simp
    rw [e] at h
    exact (((Below.refl _ _).alloc (Nat.le_refl _) _).block _ (by simp)).trans h
  have hK0 : (((w.alloc (.cells #[.slice p.A0 g.types.length p.c0, .slice p.A1 g.imps.length p.c1, .slice p.A2 g.funcs.length p.c2, .slice p.A3 g.tabs.length p.c3, .slice p.A4 g.mems.length p.c4, .slice p.A5 g.globs.length p.c5, .slice p.A6 g.expos.length p.c6, .slice p.A7 g.starts.length p.c7, .slice p.A8 g.els.length p.c8, .slice p.A9 g.counts.length p.c9, .slice p.A10 g.dats.length p.c10, .slice p.A11 g.cuss.length p.c11] 55)).alloc (.cells #[.slice none 0 0, .slice none 0 0, .slice none 0 0, .slice none 0 0, .slice none 0 0, .int .i64 0, .int .i64 0, .int .i64 0, .int .i64 0, .bool false] 66)).alloc (.cells #[.slice none 0 0, .slice none 0 0, .slice none 0 0, .slice none 0 0, .slice none 0 0, .int .i64 0, .int .i64 0, .int .i64 (g.els.length : Int), .int .i64 (g.dats.length : Int), .bool (decide (0 < g.counts.length))] 66)).heap[w.heap.size]? = some (.cells #[.slice p.A0 g.types.length p.c0, .slice p.A1 g.imps.length p.c1, .slice p.A2 g.funcs.length p.c2, .slice p.A3 g.tabs.length p.c3, .slice p.A4 g.mems.length p.c4, .slice p.A5 g.globs.length p.c5, .slice p.A6 g.expos.length p.c6, .slice p.A7 g.starts.length p.c7, .slice p.A8 g.els.length p.c8, .slice p.A9 g.counts.length p.c9, .slice p.A10 g.dats.length p.c10, .slice p.A11 g.cuss.length p.c11] 55 (0, 0)) :=
    (((Below.refl _ _).alloc (Nat.le_refl _) _).block _ (by simp; omega)).trans ((((Below.refl _ _).alloc (Nat.le_refl _) _).block _ (by simp)).trans (heap_alloc_new w _))
  have hb0 : Below w.heap.size w (((w.alloc (.cells #[.slice p.A0 g.types.length p.c0, .slice p.A1 g.imps.length p.c1, .slice p.A2 g.funcs.length p.c2, .slice p.A3 g.tabs.length p.c3, .slice p.A4 g.mems.length p.c4, .slice p.A5 g.globs.length p.c5, .slice p.A6 g.expos.length p.c6, .slice p.A7 g.starts.length p.c7, .slice p.A8 g.els.length p.c8, .slice p.A9 g.counts.length p.c9, .slice p.A10 g.dats.length p.c10, .slice p.A11 g.cuss.length p.c11] 55)).alloc (.cells #[.slice none 0 0, .slice none 0 0, .slice none 0 0, .slice none 0 0, .slice none 0 0, .int .i64 0, .int .i64 0, .int .i64 0, .int .i64 0, .bool false] 66)).alloc (.cells #[.slice none 0 0, .slice none 0 0, .slice none 0 0, .slice none 0 0, .slice none 0 0, .int .i64 0, .int .i64 0, .int .i64 (g.els.length : Int), .int .i64 (g.dats.length : Int), .bool (decide (0 < g.counts.length))] 66)) := (((Below.refl _ _).alloc (Nat.le_refl _) _).alloc (by simp) _).alloc (by simp; omega) _
  have hG0 : ∀ v, Below (w.heap.size + 1 + 1) (((w.alloc (.cells #[.slice p.A0 g.types.length p.c0, .slice p.A1 g.imps.length p.c1, .slice p.A2 g.funcs.length p.c2, .slice p.A3 g.tabs.length p.c3, .slice p.A4 g.mems.length p.c4, .slice p.A5 g.globs.length p.c5, .slice p.A6 g.expos.length p.c6, .slice p.A7 g.starts.length p.c7, .slice p.A8 g.els.length p.c8, .slice p.A9 g.counts.length p.c9, .slice p.A10 g.dats.length p.c10, .slice p.A11 g.cuss.length p.c11] 55)).alloc (.cells #[.slice none 0 0, .slice none 0 0, .slice none 0 0, .slice none 0 0, .slice none 0 0, .int .i64 0, .int .i64 0, .int .i64 0, .int .i64 0, .bool false] 66)).alloc (.cells #[.slice none 0 0, .slice none 0 0, .slice none 0 0, .slice none 0 0, .slice none 0 0, .int .i64 0, .int .i64 0, .int .i64 (g.els.length : Int), .int .i64 (g.dats.length : Int), .bool (decide (0 < g.counts.length))] 66)) v → BoxG w.heap.size v g p := fun v hv => by
    have h := (hv.block w.heap.size (by omega)).trans hK0
    refine ⟨?_, ?_, ?_, ?_, ?_, ?_, ?_, ?_, ?_, ?_, ?_, ?_⟩ <;> rw [blk_cell h] <;> rfl
  have HRES : Hid (∀ v, Below (w.heap.size + 1 + 1) (((w.alloc (.cells #[.slice p.A0 g.types.length p.c0, .slice p.A1 g.imps.length p.c1, .slice p.A2 g.funcs.length p.c2, .slice p.A3 g.tabs.length p.c3, .slice p.A4 g.mems.length p.c4, .slice p.A5 g.globs.length p.c5, .slice p.A6 g.expos.length p.c6, .slice p.A7 g.starts.length p.c7, .slice p.A8 g.els.length p.c8, .slice p.A9 g.counts.length p.c9, .slice p.A10 g.dats.length p.c10, .slice p.A11 g.cuss.length p.c11] 55)).alloc (.cells #[.slice none 0 0, .slice none 0 0, .slice none 0 0, .slice none 0 0, .slice none 0 0, .int .i64 0, .int .i64 0, .int .i64 0, .int .i64 0, .bool false] 66)).alloc (.cells #[.slice none 0 0, .slice none 0 0, .slice none 0 0, .slice none 0 0, .slice none 0 0, .int .i64 0, .int .i64 0, .int .i64 (g.els.length : Int), .int .i64 (g.dats.length : Int), .bool (decide (0 < g.counts.length))] 66)) v → v.heap[w.heap.size + 1]? = some (.cells #[.slice none 0 0, .slice none 0 0, .slice none 0 0, .slice none 0 0, .slice none 0 0, .int .i64 0, .int .i64 0, .int .i64 0, .int .i64 0, .bool false] 66 (0, 0))) := Lib.hid fun v hv => (hv.block _ (by omega)).trans hR0
  have HCT := Lib.hid (ct_new hM0 (by simp))
  have HSZ : Hid ((((w.alloc (.cells #[.slice p.A0 g.types.length p.c0, .slice p.A1 g.imps.length p.c1, .slice p.A2 g.funcs.length p.c2, .slice p.A3 g.tabs.length p.c3, .slice p.A4 g.mems.length p.c4, .slice p.A5 g.globs.length p.c5, .slice p.A6 g.expos.length p.c6, .slice p.A7 g.starts.length p.c7, .slice p.A8 g.els.length p.c8, .slice p.A9 g.counts.length p.c9, .slice p.A10 g.dats.length p.c10, .slice p.A11 g.cuss.length p.c11] 55)).alloc (.cells #[.slice none 0 0, .slice none 0 0, .slice none 0 0, .slice none 0 0, .slice none 0 0, .int .i64 0, .int .i64 0, .int .i64 0, .int .i64 0, .bool false] 66)).alloc (.cells #[.slice none 0 0, .slice none 0 0, .slice none 0 0, .slice none 0 0, .slice none 0 0, .int .i64 0, .int .i64 0, .int .i64 (g.els.length : Int), .int .i64 (g.dats.length : Int), .bool (decide (0 < g.counts.length))] 66)).heap.size = w.heap.size + 1 + 1 + 1) := Lib.hid (by simp)
  have HB := Lib.hid hb0
  have HG := Lib.hid hG0
  have HL := Lib.hid hl
  have HSM := Lib.hid hs
  clear hM0 hR0 hb0 hG0 hl hs hK0
  go_enter Try.func31, Try.ntmps31
  go_wp2_with fail
  generalize (((w.alloc (.cells #[.slice p.A0 g.types.length p.c0, .slice p.A1 g.imps.length p.c1, .slice p.A2 g.funcs.length p.c2, .slice p.A3 g.tabs.length p.c3, .slice p.A4 g.mems.length p.c4, .slice p.A5 g.globs.length p.c5, .slice p.A6 g.expos.length p.c6, .slice p.A7 g.starts.length p.c7, .slice p.A8 g.els.length p.c8, .slice p.A9 g.counts.length p.c9, .slice p.A10 g.dats.length p.c10, .slice p.A11 g.cuss.length p.c11] 55)).alloc (.cells #[.slice none 0 0, .slice none 0 0, .slice none 0 0, .slice none 0 0, .slice none 0 0, .int .i64 0, .int .i64 0, .int .i64 0, .int .i64 0, .bool false] 66)).alloc (.cells #[.slice none 0 0, .slice none 0 0, .slice none 0 0, .slice none 0 0, .slice none 0 0, .int .i64 0, .int .i64 0, .int .i64 (g.els.length : Int), .int .i64 (g.dats.length : Int), .bool (decide (0 < g.counts.length))] 66)) = W0 at *
  go_loopw [26] (fun i wr => ∃ (A0 : Option Addr) (d0 : Nat) (es : List TEnt), i = .int .i64 (es.length : Int) ∧ es.length ≤ g.types.length ∧ Hid (es.map (fun e => e.1) = g.types.take es.length ∧ CT wr (w.heap.size + 1 + 1) g A0 d0 es ∧ Below (w.heap.size + 1 + 1) W0 wr)) (fun i _ => g.types.length - (intOf i).toNat)
  case atStart => exact ⟨none, 0, [], rfl, Nat.zero_le _, Lib.hid ⟨rfl, HCT.out, Below.refl _ _⟩⟩
  case round =>
    clear HCT
    obtain ⟨A0, d0, es, rfl, hj, HI⟩ := hrel
    by_cases hlt : es.length < g.types.length
    · have hlti : (es.length : Int) < (g.types.length : Int) := by omega
      have hw : Below w.heap.size w wr := HB.out.trans (HI.out.2.2.mono (by omega))
      obtain ⟨b, off, A1, c1, A2, c2, hA, h1⟩ := sm_ft HL.out.l0 es.length hlt
      obtain ⟨q0, q1, q2, q3⟩ := h1 wr hw
      have HFT := Lib.hid (HSM.out.ft _ (List.getElem_mem hlt))
      have HNX : Hid (∀ e : TEnt, e.1 = g.types[es.length] → (es ++ [e]).map (fun e => e.1) = g.types.take (es.length + 1)) := Lib.hid fun e he => by
        rw [List.map_append, HI.out.1, List.take_succ_eq_append_getElem hlt]; simp [he]
      rw [hA]
      clear h1 hA hw
      generalize g.types[es.length] = x at *
      have hbA : Below wr.heap.size wr (wr.alloc (.cells #[.slice A1 x.1.length c1, .slice A2 x.2.length c2] 94)).drew := ((Below.refl _ _).alloc (Nat.le_refl _) _).drew
      have hsA : (wr.alloc (.cells #[.slice A1 x.1.length c1, .slice A2 x.2.length c2] 94)).drew.heap.size = wr.heap.size + 1 := by simp
      have hS0 : BoxF wr.heap.size A1 A2 x.1.length x.2.length c1 c2 (wr.alloc (.cells #[.slice A1 x.1.length c1, .slice A2 x.2.length c2] 94)).drew := ⟨by simp, by simp⟩
      go_wp2_with fail
      refine wp_region_held_drew (S := BoxF wr.heap.size A1 A2 x.1.length x.2.length c1 c2) (by kernel_rfl) hS0 (fun hS => ?_)
      generalize (wr.alloc (.cells #[.slice A1 x.1.length c1, .slice A2 x.2.length c2] 94)).drew = V at *
      have HV := Lib.hid hbA
      have HVS := Lib.hid hsA
      have HT := Lib.hid (HI.out.2.1.below hbA)
      have HQ := Lib.hid (And.intro (lst_below q2 hbA) (lst_below q3 hbA))
      have hc := HT.out.cell
      have HS0 := Lib.hid hS
      have HOW : Hid (∀ b, (Value.slice A0 es.length d0).ownBlock = some b → b < wr.heap.size) := Lib.hid fun b hb => (rowLt HI.out.2.1.own b hb).2
      have hes : es.length ≤ 100 := by have := HSM.out.types; omega
      clear q0 q1 q2 q3 hbA hsA hS0
      refine wpAnyH_take (i := 0) (oi := { dst := some 30, op := .fieldAddr 66 (.tmp 3) 0, type := 0, pos := "gather.go:9", after := #[], guard := none }) (v := ?_) rfl (by kernel_rfl) (by kernel_rfl) (by kernel_rfl) (fun _ _ _ h => h) (Or.inl ⟨by rfl, ?_⟩) hS ?_
      rotate_left
      · (intro w' hS'; obtain ⟨s0, s1⟩ := hS'; go_simp) <;> with_reducible rfl
      try simp only [Act.put, List.setIfInBounds_toArray, List.set_cons_zero, List.set_cons_succ]
      refine wpAnyH_take (i := 2) (oi := { dst := some 32, op := .load 94 (.tmp 5), type := 94, pos := "gather.go:9", after := #[], guard := none }) (v := ?_) rfl (by kernel_rfl) (by kernel_rfl) (by kernel_rfl) (fun _ _ _ h => h) (Or.inl ⟨by rfl, ?_⟩) hS ?_
      rotate_left
      · (intro w' hS'; obtain ⟨s0, s1⟩ := hS'; go_simp) <;> with_reducible rfl
      try simp only [Act.put, List.setIfInBounds_toArray, List.set_cons_zero, List.set_cons_succ]
      refine wpAnyH_ready (rs := [1, 3]) (by kernel_rfl) (by simp) ?_
      refine AllReadyH.cons (o := { dst := some 31, op := .load 46 (.tmp 30), type := 46, pos := "gather.go:9", after := #[{ on := 0, ground := .data }], guard := none }) rfl (fun K' hK => ?_) (AllReadyH.cons (o := { dst := some 33, op := .call { callee := .value (.func 38), args := #[.tmp 32], argTypes := #[94] }, type := 94, pos := "gather.go:9", after := #[{ on := 2, ground := .data }], guard := none }) rfl (fun K' hK => ?_) (AllReadyH.nil))
      · go_simp
        refine hK.out _ _ hS (fun hS => ?_)
        clear hK K'
        try simp only [Act.put, List.setIfInBounds_toArray, List.set_cons_zero, List.set_cons_succ]
        refine wpAnyH_ready (rs := [3]) (by kernel_rfl) (by simp) ?_
        refine AllReadyH.cons (o := { dst := some 33, op := .call { callee := .value (.func 38), args := #[.tmp 32], argTypes := #[94] }, type := 94, pos := "gather.go:9", after := #[{ on := 2, ground := .data }], guard := none }) rfl (fun K' hK => ?_) (AllReadyH.nil)
        go_simp
        refine (anew_any V x HQ.out.1 HQ.out.2 (by have := HFT.out; omega)).mono ?_
        rintro en V1 ⟨B1, d1, B2, d2, rfl, hq1, hq2, hq3⟩
        have HX := Lib.hid (aftA HT.out hq1 hq2 hq3)
        have HS1 := Lib.hid (boxF_keep HS0.out (HX.out.b1.block _ (by have := HVS.out; omega)))
        have HSB := Lib.hid (boxF_keep HS0.out (HX.out.bB.block _ (by have := HVS.out; omega)))
        clear hq1 hq2 hq3 hc
        have hc := HX.out.ct1.cell
        have hcB := HX.out.ctB.cell
        go_wp2_with fail
        refine hK.out _ _ HS1.out (fun hS => ?_)
        clear hK K'
        try simp only [Act.put, List.setIfInBounds_toArray, List.set_cons_zero, List.set_cons_succ]
        refine wpAnyH_ready (rs := [4]) (by kernel_rfl) (by simp) ?_
        refine AllReadyH.cons (o := { dst := some 34, op := .buildSlice 46 1 #[(0, .tmp 33)], type := 46, pos := "gather.go:9", after := #[{ on := 3, ground := .data }], guard := none }) rfl (fun K' hK => ?_) (AllReadyH.nil)
        go_simp
        refine hK.out _ _ HSB.out (fun hS => ?_)
        clear hK K'
        try simp only [Act.put, List.setIfInBounds_toArray, List.set_cons_zero, List.set_cons_succ]
        refine wpAnyH_ready (rs := [5]) (by kernel_rfl) (by simp) ?_
        refine AllReadyH.cons (o := { dst := some 35, op := .call { callee := .builtin .append, args := #[.tmp 31, .tmp 34], argTypes := #[46, 46] }, type := 46, pos := "gather.go:9", after := #[{ on := 1, ground := .data }, { on := 4, ground := .data }, { on := 3, ground := .chain }], guard := none }) rfl (fun K' hK => ?_) (AllReadyH.nil)
        refine app_step tyT rfl (.tmp 31) (.tmp 34) rfl (A := A0) (n := es.length) (c := d0) rfl HX.out.ctB.own (X := some ⟨V1.heap.size, 0, none⟩) (m := 1) (cx := 1) rfl (src_new V1 #[.slice B1 x.1.length d1, .slice B2 x.2.length d2] 94 _ rfl) (by simp [Value.oneCell']) (by omega) HX.out.ctB.lt ?_
        intro A3 d3 W2 ho2 hg2 hob2
        have HP := Lib.hid (HX.out.ctB.push HX.out.lab (by simpa [tv] using ho2) hg2 hob2)
        have e2 : W2.heap[wr.heap.size]? = (V1.alloc (.cells #[.slice B1 x.1.length d1, .slice B2 x.2.length d2] 94)).heap[wr.heap.size]? := hg2.block _ (by have := HX.out.bB.size; have := HVS.out; omega) fun e => by have := HOW.out _ e.symm; omega
        have HS2 := Lib.hid (boxF_keep HSB.out e2)
        have HS3 : Hid (∀ u, BoxF wr.heap.size A1 A2 x.1.length x.2.length c1 c2 (W2.setCell ⟨w.heap.size + 1 + 1, 0, none⟩ u)) := Lib.hid fun u => boxF_keep HS2.out (far_set (by have := HI.out.2.1.lt; show w.heap.size + 1 + 1 ≠ wr.heap.size; omega) _)
        clear ho2 hg2 hob2 e2 hc hcB
        have hc := HP.out.1
        have hz := HP.out.2.1
        refine hK.out _ _ HS2.out (fun hS => ?_)
        clear hK K'
        try simp only [Act.put, List.setIfInBounds_toArray, List.set_cons_zero, List.set_cons_succ]
        refine wpAnyH_take (i := 6) (oi := { dst := some 36, op := .fieldAddr 66 (.tmp 3) 0, type := 0, pos := "gather.go:9", after := #[{ on := 0, ground := .phase }, { on := 1, ground := .phase }, { on := 2, ground := .phase }, { on := 3, ground := .phase }, { on := 4, ground := .phase }, { on := 5, ground := .phase }], guard := none }) (v := ?_) rfl (by kernel_rfl) (by kernel_rfl) (by kernel_rfl) (fun _ _ _ h => h) (Or.inl ⟨by rfl, ?_⟩) hS ?_
        rotate_left
        · (intro w' hS'; obtain ⟨s0, s1⟩ := hS'; go_simp) <;> with_reducible rfl
        try simp only [Act.put, List.setIfInBounds_toArray, List.set_cons_zero, List.set_cons_succ]
        refine wpAnyH_ready (rs := [7]) (by kernel_rfl) (by simp) ?_
        refine AllReadyH.cons (o := { dst := none, op := .store 46 (.tmp 36) (.tmp 35), type := 0, pos := "gather.go:9", after := #[{ on := 6, ground := .data }, { on := 5, ground := .data }, { on := 5, ground := .chain }, { on := 0, ground := .phase }, { on := 1, ground := .phase }, { on := 2, ground := .phase }, { on := 3, ground := .phase }, { on := 4, ground := .phase }, { on := 5, ground := .phase }], guard := none }) rfl (fun K' hK => ?_) (AllReadyH.nil)
        go_simp
        refine hK.out _ _ (HS3.out _) (fun hS => ?_)
        clear hK K'
        try simp only [Act.put, List.setIfInBounds_toArray, List.set_cons_zero, List.set_cons_succ]
        refine wpAnyH_done (by kernel_rfl) ?_ _
        have HN := Lib.hid (And.intro (HNX.out (x, (B1, d1), B2, d2) rfl) (And.intro HP.out.2.2.1 (HI.out.2.2.trans ((HV.out.mono (Nat.le_of_lt HI.out.2.1.lt)).trans ((HX.out.bB.mono (Nat.le_trans (Nat.le_of_lt HI.out.2.1.lt) HV.out.size)).trans HP.out.2.2.2)))))
        go_wp2
        go_roundw
        case rel => exact ⟨A3, d3, es ++ [(x, (B1, d1), B2, d2)], by simp, by simp; omega, by simpa using HN⟩
        case measure => simp [intOf]; omega
      · go_simp
        refine (anew_any V x HQ.out.1 HQ.out.2 (by have := HFT.out; omega)).mono ?_
        rintro en V1 ⟨B1, d1, B2, d2, rfl, hq1, hq2, hq3⟩
        have HX := Lib.hid (aftA HT.out hq1 hq2 hq3)
        have HS1 := Lib.hid (boxF_keep HS0.out (HX.out.b1.block _ (by have := HVS.out; omega)))
        have HSB := Lib.hid (boxF_keep HS0.out (HX.out.bB.block _ (by have := HVS.out; omega)))
        clear hq1 hq2 hq3 hc
        have hc := HX.out.ct1.cell
        have hcB := HX.out.ctB.cell
        go_wp2_with fail
        refine hK.out _ _ HS1.out (fun hS => ?_)
        clear hK K'
        try simp only [Act.put, List.setIfInBounds_toArray, List.set_cons_zero, List.set_cons_succ]
        refine wpAnyH_ready (rs := [1, 4]) (by kernel_rfl) (by simp) ?_
        refine AllReadyH.cons (o := { dst := some 31, op := .load 46 (.tmp 30), type := 46, pos := "gather.go:9", after := #[{ on := 0, ground := .data }], guard := none }) rfl (fun K' hK => ?_) (AllReadyH.cons (o := { dst := some 34, op := .buildSlice 46 1 #[(0, .tmp 33)], type := 46, pos := "gather.go:9", after := #[{ on := 3, ground := .data }], guard := none }) rfl (fun K' hK => ?_) (AllReadyH.nil))
        · go_simp
          refine hK.out _ _ hS (fun hS => ?_)
          clear hK K'
          try simp only [Act.put, List.setIfInBounds_toArray, List.set_cons_zero, List.set_cons_succ]
          refine wpAnyH_ready (rs := [4]) (by kernel_rfl) (by simp) ?_
          refine AllReadyH.cons (o := { dst := some 34, op := .buildSlice 46 1 #[(0, .tmp 33)], type := 46, pos := "gather.go:9", after := #[{ on := 3, ground := .data }], guard := none }) rfl (fun K' hK => ?_) (AllReadyH.nil)
          go_simp
          refine hK.out _ _ HSB.out (fun hS => ?_)
          clear hK K'
          try simp only [Act.put, List.setIfInBounds_toArray, List.set_cons_zero, List.set_cons_succ]
          refine wpAnyH_ready (rs := [5]) (by kernel_rfl) (by simp) ?_
          refine AllReadyH.cons (o := { dst := some 35, op := .call { callee := .builtin .append, args := #[.tmp 31, .tmp 34], argTypes := #[46, 46] }, type := 46, pos := "gather.go:9", after := #[{ on := 1, ground := .data }, { on := 4, ground := .data }, { on := 3, ground := .chain }], guard := none }) rfl (fun K' hK => ?_) (AllReadyH.nil)
          refine app_step tyT rfl (.tmp 31) (.tmp 34) rfl (A := A0) (n := es.length) (c := d0) rfl HX.out.ctB.own (X := some ⟨V1.heap.size, 0, none⟩) (m := 1) (cx := 1) rfl (src_new V1 #[.slice B1 x.1.length d1, .slice B2 x.2.length d2] 94 _ rfl) (by simp [Value.oneCell']) (by omega) HX.out.ctB.lt ?_
          intro A3 d3 W2 ho2 hg2 hob2
          have HP := Lib.hid (HX.out.ctB.push HX.out.lab (by simpa [tv] using ho2) hg2 hob2)
          have e2 : W2.heap[wr.heap.size]? = (V1.alloc (.cells #[.slice B1 x.1.length d1, .slice B2 x.2.length d2] 94)).heap[wr.heap.size]? := hg2.block _ (by have := HX.out.bB.size; have := HVS.out; omega) fun e => by have := HOW.out _ e.symm; omega
          have HS2 := Lib.hid (boxF_keep HSB.out e2)
          have HS3 : Hid (∀ u, BoxF wr.heap.size A1 A2 x.1.length x.2.length c1 c2 (W2.setCell ⟨w.heap.size + 1 + 1, 0, none⟩ u)) := Lib.hid fun u => boxF_keep HS2.out (far_set (by have := HI.out.2.1.lt; show w.heap.size + 1 + 1 ≠ wr.heap.size; omega) _)
          clear ho2 hg2 hob2 e2 hc hcB
          have hc := HP.out.1
          have hz := HP.out.2.1
          refine hK.out _ _ HS2.out (fun hS => ?_)
          clear hK K'
          try simp only [Act.put, List.setIfInBounds_toArray, List.set_cons_zero, List.set_cons_succ]
          refine wpAnyH_take (i := 6) (oi := { dst := some 36, op := .fieldAddr 66 (.tmp 3) 0, type := 0, pos := "gather.go:9", after := #[{ on := 0, ground := .phase }, { on := 1, ground := .phase }, { on := 2, ground := .phase }, { on := 3, ground := .phase }, { on := 4, ground := .phase }, { on := 5, ground := .phase }], guard := none }) (v := ?_) rfl (by kernel_rfl) (by kernel_rfl) (by kernel_rfl) (fun _ _ _ h => h) (Or.inl ⟨by rfl, ?_⟩) hS ?_
          rotate_left
          · (intro w' hS'; obtain ⟨s0, s1⟩ := hS'; go_simp) <;> with_reducible rfl
          try simp only [Act.put, List.setIfInBounds_toArray, List.set_cons_zero, List.set_cons_succ]
          refine wpAnyH_ready (rs := [7]) (by kernel_rfl) (by simp) ?_
          refine AllReadyH.cons (o := { dst := none, op := .store 46 (.tmp 36) (.tmp 35), type := 0, pos := "gather.go:9", after := #[{ on := 6, ground := .data }, { on := 5, ground := .data }, { on := 5, ground := .chain }, { on := 0, ground := .phase }, { on := 1, ground := .phase }, { on := 2, ground := .phase }, { on := 3, ground := .phase }, { on := 4, ground := .phase }, { on := 5, ground := .phase }], guard := none }) rfl (fun K' hK => ?_) (AllReadyH.nil)
          go_simp
          refine hK.out _ _ (HS3.out _) (fun hS => ?_)
          clear hK K'
          try simp only [Act.put, List.setIfInBounds_toArray, List.set_cons_zero, List.set_cons_succ]
          refine wpAnyH_done (by kernel_rfl) ?_ _
          have HN := Lib.hid (And.intro (HNX.out (x, (B1, d1), B2, d2) rfl) (And.intro HP.out.2.2.1 (HI.out.2.2.trans ((HV.out.mono (Nat.le_of_lt HI.out.2.1.lt)).trans ((HX.out.bB.mono (Nat.le_trans (Nat.le_of_lt HI.out.2.1.lt) HV.out.size)).trans HP.out.2.2.2)))))
          go_wp2
          go_roundw
          case rel => exact ⟨A3, d3, es ++ [(x, (B1, d1), B2, d2)], by simp, by simp; omega, by simpa using HN⟩
          case measure => simp [intOf]; omega
        · go_simp
          refine hK.out _ _ HSB.out (fun hS => ?_)
          clear hK K'
          try simp only [Act.put, List.setIfInBounds_toArray, List.set_cons_zero, List.set_cons_succ]
          refine wpAnyH_ready (rs := [1]) (by kernel_rfl) (by simp) ?_
          refine AllReadyH.cons (o := { dst := some 31, op := .load 46 (.tmp 30), type := 46, pos := "gather.go:9", after := #[{ on := 0, ground := .data }], guard := none }) rfl (fun K' hK => ?_) (AllReadyH.nil)
          go_simp
          refine hK.out _ _ hS (fun hS => ?_)
          clear hK K'
          try simp only [Act.put, List.setIfInBounds_toArray, List.set_cons_zero, List.set_cons_succ]
          refine wpAnyH_ready (rs := [5]) (by kernel_rfl) (by simp) ?_
          refine AllReadyH.cons (o := { dst := some 35, op := .call { callee := .builtin .append, args := #[.tmp 31, .tmp 34], argTypes := #[46, 46] }, type := 46, pos := "gather.go:9", after := #[{ on := 1, ground := .data }, { on := 4, ground := .data }, { on := 3, ground := .chain }], guard := none }) rfl (fun K' hK => ?_) (AllReadyH.nil)
          refine app_step tyT rfl (.tmp 31) (.tmp 34) rfl (A := A0) (n := es.length) (c := d0) rfl HX.out.ctB.own (X := some ⟨V1.heap.size, 0, none⟩) (m := 1) (cx := 1) rfl (src_new V1 #[.slice B1 x.1.length d1, .slice B2 x.2.length d2] 94 _ rfl) (by simp [Value.oneCell']) (by omega) HX.out.ctB.lt ?_
          intro A3 d3 W2 ho2 hg2 hob2
          have HP := Lib.hid (HX.out.ctB.push HX.out.lab (by simpa [tv] using ho2) hg2 hob2)
          have e2 : W2.heap[wr.heap.size]? = (V1.alloc (.cells #[.slice B1 x.1.length d1, .slice B2 x.2.length d2] 94)).heap[wr.heap.size]? := hg2.block _ (by have := HX.out.bB.size; have := HVS.out; omega) fun e => by have := HOW.out _ e.symm; omega
          have HS2 := Lib.hid (boxF_keep HSB.out e2)
          have HS3 : Hid (∀ u, BoxF wr.heap.size A1 A2 x.1.length x.2.length c1 c2 (W2.setCell ⟨w.heap.size + 1 + 1, 0, none⟩ u)) := Lib.hid fun u => boxF_keep HS2.out (far_set (by have := HI.out.2.1.lt; show w.heap.size + 1 + 1 ≠ wr.heap.size; omega) _)
          clear ho2 hg2 hob2 e2 hc hcB
          have hc := HP.out.1
          have hz := HP.out.2.1
          refine hK.out _ _ HS2.out (fun hS => ?_)
          clear hK K'
          try simp only [Act.put, List.setIfInBounds_toArray, List.set_cons_zero, List.set_cons_succ]
          refine wpAnyH_take (i := 6) (oi := { dst := some 36, op := .fieldAddr 66 (.tmp 3) 0, type := 0, pos := "gather.go:9", after := #[{ on := 0, ground := .phase }, { on := 1, ground := .phase }, { on := 2, ground := .phase }, { on := 3, ground := .phase }, { on := 4, ground := .phase }, { on := 5, ground := .phase }], guard := none }) (v := ?_) rfl (by kernel_rfl) (by kernel_rfl) (by kernel_rfl) (fun _ _ _ h => h) (Or.inl ⟨by rfl, ?_⟩) hS ?_
          rotate_left
          · (intro w' hS'; obtain ⟨s0, s1⟩ := hS'; go_simp) <;> with_reducible rfl
          try simp only [Act.put, List.setIfInBounds_toArray, List.set_cons_zero, List.set_cons_succ]
          refine wpAnyH_ready (rs := [7]) (by kernel_rfl) (by simp) ?_
          refine AllReadyH.cons (o := { dst := none, op := .store 46 (.tmp 36) (.tmp 35), type := 0, pos := "gather.go:9", after := #[{ on := 6, ground := .data }, { on := 5, ground := .data }, { on := 5, ground := .chain }, { on := 0, ground := .phase }, { on := 1, ground := .phase }, { on := 2, ground := .phase }, { on := 3, ground := .phase }, { on := 4, ground := .phase }, { on := 5, ground := .phase }], guard := none }) rfl (fun K' hK => ?_) (AllReadyH.nil)
          go_simp
          refine hK.out _ _ (HS3.out _) (fun hS => ?_)
          clear hK K'
          try simp only [Act.put, List.setIfInBounds_toArray, List.set_cons_zero, List.set_cons_succ]
          refine wpAnyH_done (by kernel_rfl) ?_ _
          have HN := Lib.hid (And.intro (HNX.out (x, (B1, d1), B2, d2) rfl) (And.intro HP.out.2.2.1 (HI.out.2.2.trans ((HV.out.mono (Nat.le_of_lt HI.out.2.1.lt)).trans ((HX.out.bB.mono (Nat.le_trans (Nat.le_of_lt HI.out.2.1.lt) HV.out.size)).trans HP.out.2.2.2)))))
          go_wp2
          go_roundw
          case rel => exact ⟨A3, d3, es ++ [(x, (B1, d1), B2, d2)], by simp, by simp; omega, by simpa using HN⟩
          case measure => simp [intOf]; omega
    · have hlti : ¬ (es.length : Int) < (g.types.length : Int) := by omega
      rename World => w1
      have HC := Lib.hid (HI.out.2.1.fin (by rw [HI.out.1]; exact List.take_of_length_le (by omega)))
      have HW := Lib.hid HI.out.2.2
      have HM1 := Lib.hid HI.out.2.1.lt
      clear HI hj hlt
      obtain ⟨L, okT, HF⟩ : ∃ (L : Nat) (okT : Nat → Prop), Hid (CS w1 L (w.heap.size + 1 + 1) okT (pT A0 d0) (gath0 g) ∧ (∀ b, okT b → w.heap.size + 1 + 1 < b) ∧ w.heap.size + 1 + 1 < L) := ⟨_, _, Lib.hid ⟨HC.out, fun b hb => hb.1, HM1.out⟩⟩
      clear HC HM1
      generalize hp0 : pT A0 d0 = p0 at *
      clear hp0 A0 d0
      have y1 := (HG.out _ HW.out).2.1
      go_wp2_with fail
      clear y1
      go_loopw [41] (fun i wr => ∃ (j : Nat) (p1 : Plc), i = .int .i64 (j : Int) ∧ j ≤ g.imps.length ∧ Hid (CS wr L (w.heap.size + 1 + 1) okT p1 ((g.imps.take j).foldl addI (gath0 g)) ∧ Below (w.heap.size + 1 + 1) W0 wr)) (fun i _ => g.imps.length - (intOf i).toNat)
      case atStart => exact ⟨0, p0, rfl, Nat.zero_le _, Lib.hid ⟨HF.out.1, HW.out⟩⟩
      case round =>
        obtain ⟨j, p1, rfl, hj, HI⟩ := hrel
        by_cases hlt : j < g.imps.length
        · have hlti : (j : Int) < (g.imps.length : Int) := by omega
          have hn1 : (g.imps.length : Int) ≤ 100 := by have := HSM.out.imps; omega
          have hw : Below w.heap.size w wr := HB.out.trans (HI.out.2.mono (by omega))
          obtain ⟨b, off, hA, h1⟩ := sm_imp HL.out.l1 j hlt
          obtain ⟨q0, q1, q2, q3, q4, q5, q6, q7⟩ := h1 wr hw
          have HE := Lib.hid (fold_take g j hlt (gath0 g))
          rw [hA]
          clear h1 hA hw
          generalize g.imps[j] = x at *
          have HAL : Hid (Below wr.heap.size wr (wr.alloc (.cells #[.string x.md, .string x.nm, .int .i64 x.kind, .int .i64 x.ty, .int .i64 x.lim.1, .bool x.lim.2.1, .int .i64 x.lim.2.2, .bool x.mu] 72))) := Lib.hid ((Below.refl _ _).alloc (Nat.le_refl _) _)
          have HFW : Hid (Few ((g.imps.take j).foldl addI (gath0 g)) 1000) := Lib.hid (few_mono (fold_few (g.imps.take j) (gath0 g) 0 ⟨Nat.le_refl _, Nat.le_refl _, Nat.le_refl _, Nat.le_refl _⟩) (by have := HSM.out.imps; rw [List.length_take]; omega))
          have HCA := Lib.hid (HI.out.1.below HAL.out)
          go_wp2_with fail
          refine (addImport_any HCA.out HFW.out x).mono ?_
          rintro en w3 ⟨rfl, ⟨p2, hp2, _, _⟩, hb3⟩
          have HN : Hid (CS w3 L (w.heap.size + 1 + 1) okT p2 ((g.imps.take (j + 1)).foldl addI (gath0 g)) ∧ Below (w.heap.size + 1 + 1) W0 w3) := Lib.hid ⟨by rw [HE.out]; exact hp2, HI.out.2.trans ((HAL.out.mono (by have := HI.out.1.lt; have := HI.out.1.hL; omega)).trans hb3)⟩
          clear hp2 hb3 q0 q1 q2 q3 q4 q5 q6 q7 HCA HAL
          go_wp2
          go_roundw
          case rel => exact ⟨j + 1, p2, by go_num, by omega, HN⟩
          case measure => simp [intOf]; omega
        · have hlti : ¬ (j : Int) < (g.imps.length : Int) := by omega
          rename World => w2
          have HC : Hid (CS w2 L (w.heap.size + 1 + 1) okT p1 (gathI g)) := Lib.hid (by have := HI.out.1; rwa [List.take_of_length_le (by omega)] at this)
          have HW2 := Lib.hid HI.out.2
          have HFW : Hid (Few (gathI g) 100) := Lib.hid (few_mono (fold_few g.imps (gath0 g) 0 ⟨Nat.le_refl _, Nat.le_refl _, Nat.le_refl _, Nat.le_refl _⟩) (by have := HSM.out.imps; omega))
          have HEQ : Hid (gather g = gathG g (gathM g (gathT g (gathF g (gathH (gathI g)))))) := Lib.hid rfl
          have HOK := Lib.hid HF.out.2
          clear HI hj hlt HF HW
          generalize gathI g = c at *
          have x1 : w2.cell? ⟨w.heap.size + 1 + 1, 1, none⟩ = some (.slice p1.A1 c.funcs.length p1.d1) := by rw [HC.out.cell]; rfl
          have x2 : w2.cell? ⟨w.heap.size + 1 + 1, 2, none⟩ = some (.slice p1.A2 c.globs.length p1.d2) := by rw [HC.out.cell]; rfl
          have x5 : w2.cell? ⟨w.heap.size + 1 + 1, 5, none⟩ = some (.int .i64 c.hosts) := by rw [HC.out.cell]; rfl
          have x6 : w2.cell? ⟨w.heap.size + 1 + 1, 6, none⟩ = some (.int .i64 c.vars) := by rw [HC.out.cell]; rfl
          have z5 := HC.out.free 5
          have z6 := HC.out.free 6
          have HC3 := Lib.hid (HC.out.hosts (c.funcs.length : Int) (c.globs.length : Int))
          have HW3 : Hid (Below (w.heap.size + 1 + 1) W0 ((w2.setCell ⟨w.heap.size + 1 + 1, 5, none⟩ (.int .i64 (c.funcs.length : Int))).setCell ⟨w.heap.size + 1 + 1, 6, none⟩ (.int .i64 (c.globs.length : Int)))) := Lib.hid (HW2.out.trans HC3.out.2)
          have y2 : ((w2.setCell ⟨w.heap.size + 1 + 1, 5, none⟩ (.int .i64 (c.funcs.length : Int))).setCell ⟨w.heap.size + 1 + 1, 6, none⟩ (.int .i64 (c.globs.length : Int))).cell? ⟨w.heap.size, 2, none⟩ = some (.slice p.A2 g.funcs.length p.c2) := (HG.out _ HW3.out).2.2.1
          go_wp2_with fail
          generalize (w2.setCell ⟨w.heap.size + 1 + 1, 5, none⟩ (.int .i64 (c.funcs.length : Int))).setCell ⟨w.heap.size + 1 + 1, 6, none⟩ (.int .i64 (c.globs.length : Int)) = w3 at *
          clear x1 x2 x5 x6 z5 z6 y2 HC HW2
          have HC := Lib.hid HC3.out.1
          have HW := HW3
          clear HC3 HW3
          have HFH : Hid (Few (gathH c) 100) := Lib.hid HFW.out
          have HC : Hid (CS w3 L (w.heap.size + 1 + 1) okT p1 (gathH c)) := HC
          clear HFW
          generalize gathH c = c3 at *
          go_loopw [59] (fun i wr => ∃ (j : Nat) (p2 : Plc), i = .int .i64 (j : Int) ∧ j ≤ g.funcs.length ∧ Hid (CS wr L (w.heap.size + 1 + 1) okT p2 { c3 with funcs := c3.funcs ++ (g.funcs.take j).map (fun x : GFn => x.ty) } ∧ Below (w.heap.size + 1 + 1) W0 wr)) (fun i _ => g.funcs.length - (intOf i).toNat)
          case atStart => exact ⟨0, p1, rfl, Nat.zero_le _, Lib.hid ⟨by simpa using HC.out, HW.out⟩⟩
          case round =>
            clear HC HW
            obtain ⟨j, p2, rfl, hj, HI⟩ := hrel
            by_cases hlt : j < g.funcs.length
            · have hlti : (j : Int) < (g.funcs.length : Int) := by omega
              have hn1 : (g.funcs.length : Int) ≤ 100 := by have := HSM.out.funcs; omega
              have hw : Below w.heap.size w wr := HB.out.trans (HI.out.2.mono (by omega))
              obtain ⟨b, off, A1, c1, A2, c2, hA, h1⟩ := sm_fn HL.out.l2 j hlt
              obtain ⟨q0, q1, q2, _, _⟩ := h1 wr hw
              have HE : Hid ({ c3 with funcs := c3.funcs ++ (g.funcs.take (j + 1)).map (fun x : GFn => x.ty) } = { ({ c3 with funcs := c3.funcs ++ (g.funcs.take j).map (fun x : GFn => x.ty) } : GCtx) with funcs := ({ c3 with funcs := c3.funcs ++ (g.funcs.take j).map (fun x : GFn => x.ty) } : GCtx).funcs ++ [g.funcs[j].ty] }) := Lib.hid (by simp only; rw [List.take_succ_eq_append_getElem hlt, List.map_append, List.append_assoc]; rfl)
              have HLN : Hid (({ c3 with funcs := c3.funcs ++ (g.funcs.take j).map (fun x : GFn => x.ty) } : GCtx).funcs.length ≤ 1000) := Lib.hid (by have := HFH.out.1; simp only [List.length_append, List.length_map, List.length_take]; omega)
              rw [hA]
              clear h1 hA hw
              generalize g.funcs[j] = x at *
              have HBA : Hid (Below wr.heap.size wr ((wr.alloc (.cells #[.int .i64 x.ty, .slice A1 x.locals.length c1, .slice A2 x.body.length c2] 99)).alloc (.cells #[.int .i64 x.ty] 3))) := Lib.hid (((Below.refl _ _).alloc (Nat.le_refl _) _).alloc (by simp) _)
              generalize ({ c3 with funcs := c3.funcs ++ (g.funcs.take j).map (fun x : GFn => x.ty) } : GCtx) = c4 at HI HE HLN
              have HCA := Lib.hid (HI.out.1.below HBA.out)
              have x1 : (wr.alloc (.cells #[.int .i64 x.ty, .slice A1 x.locals.length c1, .slice A2 x.body.length c2] 99)).cell? ⟨w.heap.size + 1 + 1, 1, none⟩ = some (.slice p2.A1 c4.funcs.length p2.d1) := ((HI.out.1.below ((Below.refl _ _).alloc (Nat.le_refl _) _)).cell 1).trans rfl
              go_wp2_with (at_builtin; refine app_list tyI rfl (.tmp 64) (.tmp 67) rfl (A := p2.A1) (n := c4.funcs.length) (c := p2.d1) rfl HCA.out.o1 (X := some ⟨wr.heap.size + 1, 0, none⟩) (m := 1) (cx := 1) rfl (src_at _ #[.int .i64 x.ty] 3 _ rfl (by simp)) (by simp [Value.oneCell']) (by have := HLN.out; omega) HCA.out.hL ?_; intro A3 d3 W2 ho2 hg2 hob2; have HP := Lib.hid (HCA.out.push1 (ys := [x.ty]) rfl (by simpa [iv] using ho2) hg2 hob2); clear ho2 hg2 hob2 x1; have x1 : W2.cell? ⟨w.heap.size + 1 + 1, 1, none⟩ = some (.slice p2.A1 c4.funcs.length p2.d1) := (HP.out.cell).trans rfl; have z1 := HP.out.free; obtain ⟨p3, hp3, _, _⟩ := HP.out.st; have HN : Hid (CS (W2.setCell ⟨w.heap.size + 1 + 1, 1, none⟩ (.slice A3 (c4.funcs.length + 1) d3)) L (w.heap.size + 1 + 1) okT p3 { c3 with funcs := c3.funcs ++ (g.funcs.take (j + 1)).map (fun x : GFn => x.ty) } ∧ Below (w.heap.size + 1 + 1) W0 (W2.setCell ⟨w.heap.size + 1 + 1, 1, none⟩ (.slice A3 (c4.funcs.length + 1) d3))) := Lib.hid ⟨by rw [HE.out]; exact hp3, HI.out.2.trans ((HBA.out.mono (by have := HI.out.1.lt; have := HI.out.1.hL; omega)).trans HP.out.below)⟩; clear hp3 HP HCA HBA)
              go_roundw
              case rel => exact ⟨j + 1, p3, by go_num, by omega, HN⟩
              case measure => simp [intOf]; omega
            · have hlti : ¬ (j : Int) < (g.funcs.length : Int) := by omega
              rename World => w4
              have HC : Hid (CS w4 L (w.heap.size + 1 + 1) okT p2 (gathF g c3)) := Lib.hid (by have := HI.out.1; rwa [List.take_of_length_le (l := g.funcs) (i := j) (by omega)] at this)
              have HW := Lib.hid HI.out.2
              have HFF : Hid ((gathF g c3).tabs.length ≤ 100 ∧ (gathF g c3).mems.length ≤ 100 ∧ (gathF g c3).globs.length ≤ 100) := Lib.hid ⟨HFH.out.2.2.1, HFH.out.2.2.2, HFH.out.2.1⟩
              clear HI hj hlt HFH
              generalize gathF g c3 = c4 at *
              have x3 : w4.cell? ⟨w.heap.size + 1 + 1, 3, none⟩ = some (.slice p2.A3 c4.tabs.length p2.d3) := by rw [HC.out.cell]; rfl
              have y3 := (HG.out _ HW.out).2.2.2.1
              have HLT := Lib.hid (HL.out.l3.keep (w' := w4) (ok' := fun _ => True) fun b hb hlt => ⟨((HB.out.trans (HW.out.mono (by omega))).block b hlt), trivial⟩)
              go_wp2_with (at_builtin; first | (refine app_list tyL rfl (.tmp 72) (.tmp 74) rfl (A := p2.A3) (n := c4.tabs.length) (c := p2.d3) rfl HC.out.o3 (X := p.A3) (m := g.tabs.length) (cx := p.c3) rfl (src_lims HLT.out) (ones_l _) (by have := HFF.out.1; have := HSM.out.tabs; omega) HC.out.hL ?_; intro A3 d3 W2 ho2 hg2 hob2; have HP := Lib.hid (HC.out.push3 (ys := g.tabs) rfl ho2 hg2 hob2); clear ho2 hg2 hob2 x3 y3 HLT; have x3 : W2.cell? ⟨w.heap.size + 1 + 1, 3, none⟩ = some (.slice p2.A3 c4.tabs.length p2.d3) := (HP.out.cell).trans rfl; have z3 := HP.out.free; obtain ⟨p3, hp3, _, _⟩ := HP.out.st; have HC5 : Hid (CS (W2.setCell ⟨w.heap.size + 1 + 1, 3, none⟩ (.slice A3 (c4.tabs.length + g.tabs.length) d3)) L (w.heap.size + 1 + 1) okT p3 (gathT g c4)) := Lib.hid hp3; have HW5 := Lib.hid (HW.out.trans HP.out.below); clear hp3 HP HC HW; have HFG : Hid ((gathT g c4).mems.length ≤ 100 ∧ (gathT g c4).globs.length ≤ 100) := Lib.hid HFF.out.2; clear HFF; generalize hc5 : gathT g c4 = c5 at HC5 HFG; have HLM := Lib.hid (HL.out.l4.keep (w' := W2.setCell ⟨w.heap.size + 1 + 1, 3, none⟩ (.slice A3 (c4.tabs.length + g.tabs.length) d3)) (ok' := fun _ => True) fun b hb hlt => ⟨((HB.out.trans (HW5.out.mono (by omega))).block b hlt), trivial⟩); have HC5E := Lib.hid hc5; clear hc5; have x4 : (W2.setCell ⟨w.heap.size + 1 + 1, 3, none⟩ (.slice A3 (c4.tabs.length + g.tabs.length) d3)).cell? ⟨w.heap.size + 1 + 1, 4, none⟩ = some (.slice p3.A4 c5.mems.length p3.d4) := (HC5.out.cell 4).trans rfl; have y4 := (HG.out _ HW5.out).2.2.2.2.1) | (refine app_list tyL rfl (.tmp 78) (.tmp 80) rfl (A := p3.A4) (n := c5.mems.length) (c := p3.d4) rfl HC5.out.o4 (X := p.A4) (m := g.mems.length) (cx := p.c4) rfl (src_lims HLM.out) (ones_l _) (by have := HFG.out.1; have := HSM.out.mems; omega) HC5.out.hL ?_; intro A4 d4 W3 ho3 hg3 hob3; have HP := Lib.hid (HC5.out.push4 (ys := g.mems) rfl ho3 hg3 hob3); clear ho3 hg3 hob3 x4 y4 HLM x3 z3; have x4 : W3.cell? ⟨w.heap.size + 1 + 1, 4, none⟩ = some (.slice p3.A4 c5.mems.length p3.d4) := (HP.out.cell).trans rfl; have z4 := HP.out.free; obtain ⟨p4, hp4, _, _⟩ := HP.out.st; have HC6 : Hid (CS (W3.setCell ⟨w.heap.size + 1 + 1, 4, none⟩ (.slice A4 (c5.mems.length + g.mems.length) d4)) L (w.heap.size + 1 + 1) okT p4 (gathM g c5)) := Lib.hid hp4; have HW6 := Lib.hid (HW5.out.trans HP.out.below); clear hp4 HP HC5 HW5; have y5 := (HG.out _ HW6.out).2.2.2.2.2.1))
              have HC : Hid (CS (W3.setCell ⟨w.heap.size + 1 + 1, 4, none⟩ (.slice A4 (c5.mems.length + g.mems.length) d4)) L (w.heap.size + 1 + 1) okT p4 (gathM g c5)) := HC6
              have HQ : Hid (gather g = gathG g (gathM g c5) ∧ (gathM g c5).globs.length ≤ 100) := Lib.hid ⟨by rw [← HC5E.out]; exact HEQ.out, HFG.out.2⟩
              have HW := HW6
              clear HC6 HW6 y5 x4 z4 HFG HC5E HEQ
              generalize W3.setCell ⟨w.heap.size + 1 + 1, 4, none⟩ (.slice A4 (c5.mems.length + g.mems.length) d4) = w6 at *
              generalize gathM g c5 = c6 at *
              go_loopw [86] (fun i wr => ∃ (j : Nat) (p2 : Plc), i = .int .i64 (j : Int) ∧ j ≤ g.globs.length ∧ Hid (CS wr L (w.heap.size + 1 + 1) okT p2 { c6 with globs := c6.globs ++ (g.globs.take j).map (fun x : GGlob => (x.ty, x.mu)) } ∧ Below (w.heap.size + 1 + 1) W0 wr)) (fun i _ => g.globs.length - (intOf i).toNat)
              case atStart => exact ⟨0, p4, rfl, Nat.zero_le _, Lib.hid ⟨by simpa using HC.out, HW.out⟩⟩
              case round =>
                clear HC HW
                obtain ⟨j, p5, rfl, hj, HI⟩ := hrel
                by_cases hlt : j < g.globs.length
                · have hlti : (j : Int) < (g.globs.length : Int) := by omega
                  have hn1 : (g.globs.length : Int) ≤ 100 := by have := HSM.out.globs; omega
                  have hw : Below w.heap.size w wr := HB.out.trans (HI.out.2.mono (by omega))
                  obtain ⟨b, off, A1, c1, hA, h1⟩ := sm_glob HL.out.l5 j hlt
                  obtain ⟨q0, q1, q2, _⟩ := h1 wr hw
                  have HE : Hid ({ c6 with globs := c6.globs ++ (g.globs.take (j + 1)).map (fun x : GGlob => (x.ty, x.mu)) } = { ({ c6 with globs := c6.globs ++ (g.globs.take j).map (fun x : GGlob => (x.ty, x.mu)) } : GCtx) with globs := ({ c6 with globs := c6.globs ++ (g.globs.take j).map (fun x : GGlob => (x.ty, x.mu)) } : GCtx).globs ++ [(g.globs[j].ty, g.globs[j].mu)] }) := Lib.hid (by simp only; rw [List.take_succ_eq_append_getElem hlt, List.map_append, List.append_assoc]; rfl)
                  have HLN : Hid (({ c6 with globs := c6.globs ++ (g.globs.take j).map (fun x : GGlob => (x.ty, x.mu)) } : GCtx).globs.length ≤ 1000) := Lib.hid (by have := HQ.out.2; simp only [List.length_append, List.length_map, List.length_take]; omega)
                  rw [hA]
                  clear h1 hA hw
                  generalize g.globs[j] = x at *
                  have HBA : Hid (Below wr.heap.size wr ((wr.alloc (.cells #[.int .i64 x.ty, .bool x.mu, .slice A1 x.init.length c1] 87)).alloc (.cells #[.int .i64 x.ty, .bool x.mu] 101))) := Lib.hid (((Below.refl _ _).alloc (Nat.le_refl _) _).alloc (by simp) _)
                  generalize ({ c6 with globs := c6.globs ++ (g.globs.take j).map (fun x : GGlob => (x.ty, x.mu)) } : GCtx) = c4x at HI HE HLN
                  have HCA := Lib.hid (HI.out.1.below HBA.out)
                  have x1 : (wr.alloc (.cells #[.int .i64 x.ty, .bool x.mu, .slice A1 x.init.length c1] 87)).cell? ⟨w.heap.size + 1 + 1, 2, none⟩ = some (.slice p5.A2 c4x.globs.length p5.d2) := ((HI.out.1.below ((Below.refl _ _).alloc (Nat.le_refl _) _)).cell 2).trans rfl
                  have x1b : wr.cell? ⟨w.heap.size + 1 + 1, 2, none⟩ = some (.slice p5.A2 c4x.globs.length p5.d2) := (HI.out.1.cell 2).trans rfl
                  go_wp2_with (at_builtin; refine app_list tyV rfl (.tmp 91) (.tmp 97) rfl (A := p5.A2) (n := c4x.globs.length) (c := p5.d2) rfl HCA.out.o2 (X := some ⟨wr.heap.size + 1, 0, none⟩) (m := 1) (cx := 1) rfl (src_at _ #[.int .i64 x.ty, .bool x.mu] 101 _ rfl (by simp)) (by simp [Value.oneCell']) (by have := HLN.out; omega) HCA.out.hL ?_; intro A6 d6 W6 ho2 hg2 hob2; have HP := Lib.hid (HCA.out.push2 (ys := [(x.ty, x.mu)]) rfl (by simpa [vv] using ho2) hg2 hob2); clear ho2 hg2 hob2 x1 x1b; have x1 : W6.cell? ⟨w.heap.size + 1 + 1, 2, none⟩ = some (.slice p5.A2 c4x.globs.length p5.d2) := (HP.out.cell).trans rfl; have z1 := HP.out.free; obtain ⟨p6, hp6, _, _⟩ := HP.out.st; have HN : Hid (CS (W6.setCell ⟨w.heap.size + 1 + 1, 2, none⟩ (.slice A6 (c4x.globs.length + 1) d6)) L (w.heap.size + 1 + 1) okT p6 { c6 with globs := c6.globs ++ (g.globs.take (j + 1)).map (fun x : GGlob => (x.ty, x.mu)) } ∧ Below (w.heap.size + 1 + 1) W0 (W6.setCell ⟨w.heap.size + 1 + 1, 2, none⟩ (.slice A6 (c4x.globs.length + 1) d6))) := Lib.hid ⟨by rw [HE.out]; exact hp6, HI.out.2.trans ((HBA.out.mono (by have := HI.out.1.lt; have := HI.out.1.hL; omega)).trans HP.out.below)⟩; clear hp6 HP HCA HBA)
                  go_roundw
                  case rel => exact ⟨j + 1, p6, by go_num, by omega, HN⟩
                  case measure => simp [intOf]; omega
                · have hlti : ¬ (j : Int) < (g.globs.length : Int) := by omega
                  rename World => w7
                  rename Plc => p6
                  have HC : Hid (CS w7 L (w.heap.size + 1 + 1) okT p6 (gather g)) := Lib.hid (by rw [HQ.out.1]; have := HI.out.1; rwa [List.take_of_length_le (l := g.globs) (i := j) (by omega)] at this)
                  have HW := Lib.hid HI.out.2
                  clear HI hj hlt HQ
                  have HRB := Lib.hid (HRES.out _ HW.out)
                  generalize hc7 : gather g = c7 at *
                  have HC7 := Lib.hid hc7
                  clear hc7
                  have x0 : w7.cell? ⟨w.heap.size + 1 + 1, 0, none⟩ = some (.slice p6.A0 c7.types.length p6.d0) := (HC.out.cell 0).trans rfl
                  have x1 : w7.cell? ⟨w.heap.size + 1 + 1, 1, none⟩ = some (.slice p6.A1 c7.funcs.length p6.d1) := (HC.out.cell 1).trans rfl
                  have x2 : w7.cell? ⟨w.heap.size + 1 + 1, 2, none⟩ = some (.slice p6.A2 c7.globs.length p6.d2) := (HC.out.cell 2).trans rfl
                  have x3 : w7.cell? ⟨w.heap.size + 1 + 1, 3, none⟩ = some (.slice p6.A3 c7.tabs.length p6.d3) := (HC.out.cell 3).trans rfl
                  have x4 : w7.cell? ⟨w.heap.size + 1 + 1, 4, none⟩ = some (.slice p6.A4 c7.mems.length p6.d4) := (HC.out.cell 4).trans rfl
                  have x5 : w7.cell? ⟨w.heap.size + 1 + 1, 5, none⟩ = some (.int .i64 c7.hosts) := (HC.out.cell 5).trans rfl
                  have x6 : w7.cell? ⟨w.heap.size + 1 + 1, 6, none⟩ = some (.int .i64 c7.vars) := (HC.out.cell 6).trans rfl
                  have x7 : w7.cell? ⟨w.heap.size + 1 + 1, 7, none⟩ = some (.int .i64 c7.els) := (HC.out.cell 7).trans rfl
                  have x8 : w7.cell? ⟨w.heap.size + 1 + 1, 8, none⟩ = some (.int .i64 c7.dats) := (HC.out.cell 8).trans rfl
                  have x9 : w7.cell? ⟨w.heap.size + 1 + 1, 9, none⟩ = some (.bool c7.counted) := (HC.out.cell 9).trans rfl
                  have q0 : w7.cell? ⟨w.heap.size + 1, 0, none⟩ = some (.slice none 0 0) := (blk_cell HRB.out 0).trans rfl
                  have q1 : w7.cell? ⟨w.heap.size + 1, 1, none⟩ = some (.slice none 0 0) := (blk_cell HRB.out 1).trans rfl
                  have q2 : w7.cell? ⟨w.heap.size + 1, 2, none⟩ = some (.slice none 0 0) := (blk_cell HRB.out 2).trans rfl
                  have q3 : w7.cell? ⟨w.heap.size + 1, 3, none⟩ = some (.slice none 0 0) := (blk_cell HRB.out 3).trans rfl
                  have q4 : w7.cell? ⟨w.heap.size + 1, 4, none⟩ = some (.slice none 0 0) := (blk_cell HRB.out 4).trans rfl
                  have q5 : w7.cell? ⟨w.heap.size + 1, 5, none⟩ = some (.int .i64 0) := (blk_cell HRB.out 5).trans rfl
                  have q6 : w7.cell? ⟨w.heap.size + 1, 6, none⟩ = some (.int .i64 0) := (blk_cell HRB.out 6).trans rfl
                  have q7 : w7.cell? ⟨w.heap.size + 1, 7, none⟩ = some (.int .i64 0) := (blk_cell HRB.out 7).trans rfl
                  have q8 : w7.cell? ⟨w.heap.size + 1, 8, none⟩ = some (.int .i64 0) := (blk_cell HRB.out 8).trans rfl
                  have q9 : w7.cell? ⟨w.heap.size + 1, 9, none⟩ = some (.bool false) := (blk_cell HRB.out 9).trans rfl
                  have z0 := blk_free HRB.out 0
                  have z1 := blk_free HRB.out 1
                  have z2 := blk_free HRB.out 2
                  have z3 := blk_free HRB.out 3
                  have z4 := blk_free HRB.out 4
                  have z5 := blk_free HRB.out 5
                  have z6 := blk_free HRB.out 6
                  have z7 := blk_free HRB.out 7
                  have z8 := blk_free HRB.out 8
                  have z9 := blk_free HRB.out 9
                  have HX := Lib.hid (setsL_ctx HRB.out p6 c7)
                  have r := fun i => (blk_cell HX.out i)
                  have r0 := (r 0).trans rfl
                  have r1 := (r 1).trans rfl
                  have r2 := (r 2).trans rfl
                  have r3 := (r 3).trans rfl
                  have r4 := (r 4).trans rfl
                  have r5 := (r 5).trans rfl
                  have r6 := (r 6).trans rfl
                  have r7 := (r 7).trans rfl
                  have r8 := (r 8).trans rfl
                  have r9 := (r 9).trans rfl
                  have HFR := Lib.hid (fun q (hq : q ≠ w.heap.size + 1) => setsL_far w7 (w.heap.size + 1) q hq (p6.vals c7) 0)
                  have HBF := Lib.hid (setsL_below w7 (w.heap.size + 1) (p6.vals c7) 0 (B := w.heap.size) (by omega))
                  clear r
                  go_wp2_with fail
                  show bodyPost _ _ _ _ _ (setsL w7 (w.heap.size + 1) 0 (p6.vals c7))
                  generalize setsL w7 (w.heap.size + 1) 0 (p6.vals c7) = w8 at *
                  refine bodyPost_ret (v := .agg (p6.vals c7).toArray) (by simp [results, Try.results31, go_sem, r0, r1, r2, r3, r4, r5, r6, r7, r8, r9, Plc.vals]) rfl ?_
                  refine ⟨p6, by rw [HC7.out], ?_, ?_⟩
                  · rw [HC7.out]
                    exact (HC.out.fin (ok := fun b => w.heap.size ≤ b ∧ b ≠ w.heap.size + 1) (fun b hb => by have := HOK.out.1 b hb; exact ⟨by omega, by omega⟩) (fun b hb => by have := HOK.out.2; exact ⟨by omega, by omega⟩)).keep fun b hb _ => ⟨HFR.out b hb.2, hb.1⟩
                  · exact HB.out.trans ((HW.out.mono (by omega)).trans HBF.out)
end Go.Proofs.Ytdcolpmmojiffaa.Cx
