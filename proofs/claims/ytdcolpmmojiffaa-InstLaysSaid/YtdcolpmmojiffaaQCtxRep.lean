/-
  CtxRep: A context (api.Ctx) as plain lists and in memory; what a module's parts gather to, in plain words. No condition; nothing of the program.
-/
import Derived.Test.YtdcolpmmojiffaaQModSm
import Derived.Maps.AppendAt
import Derived.Laws.AppendOwnNone
namespace Go.Proofs.Ytdcolpmmojiffaa.Cx
open Go.RowKit Leb
open _root_.Go.Proofs.Ytdcolpmmojiffaa.Mod

abbrev GVar : Type := Int × Bool
structure GCtx where
  types : List GFt
  funcs : List Int
  globs : List GVar
  tabs : List GLim
  mems : List GLim
  hosts : Int
  vars : Int
  els : Int
  dats : Int
  counted : Bool
def noC : GCtx := ⟨[], [], [], [], [], 0, 0, 0, 0, false⟩
def varR : Rep GVar := seqR intR boolR
theorem varR_at {w : World} {ok : Nat → Prop} {vs : List Value} {x : GVar} : varR.at_ w ok vs x ↔ vs = [.int .i64 x.1, .bool x.2] := by
  constructor
  · rintro ⟨u1, v1, rfl, h1, h2⟩
    obtain rfl : u1 = [.int .i64 x.1] := h1
    obtain rfl : v1 = [.bool x.2] := h2
    rfl
  · rintro rfl
    exact ⟨[_], _, rfl, rfl, rfl⟩
theorem sm_var {w1 : World} {ok : Nat → Prop} {A : Option Addr} {c : Nat} {xs : List GVar} (h : Lst varR w1 ok A c xs) (j : Nat) (hj : j < xs.length) :
    ∃ b off, A = some ⟨b, off, none⟩ ∧ ∀ V, Below w1.heap.size w1 V → V.cell? ⟨b, off + j * 2, none⟩ = some (.int .i64 xs[j].1) ∧ V.cell? ⟨b, off + j * 2 + 1, none⟩ = some (.bool xs[j].2) := by
  obtain ⟨b, off, us, rfl, hb, h1, h2⟩ := sm_any h j hj
  have h3 := varR_at.1 h1
  subst h3
  refine ⟨b, off, rfl, fun V hV => ⟨?_, ?_⟩⟩
  · exact (hV.cell hb).trans (h2 0 (by simp))
  · exact (hV.cell hb).trans (h2 1 (by simp))
theorem sm_int {w1 : World} {ok : Nat → Prop} {A : Option Addr} {c : Nat} {xs : List Int} (h : Lst intR w1 ok A c xs) (j : Nat) (hj : j < xs.length) :
    ∃ b off, A = some ⟨b, off, none⟩ ∧ ∀ V, Below w1.heap.size w1 V → V.cell? ⟨b, off + j, none⟩ = some (.int .i64 xs[j]) := by
  obtain ⟨b, off, us, rfl, hb, h1, h2⟩ := sm_any h j hj
  obtain rfl : us = [.int .i64 xs[j]] := h1
  refine ⟨b, off, rfl, fun V hV => (hV.cell hb).trans ?_⟩
  have := h2 0 (by simp)
  simpa [intR, oneR] using this
theorem sm_ins {w1 : World} {ok : Nat → Prop} {A : Option Addr} {c : Nat} {xs : List Ins.Ins} (h : Lst insR w1 ok A c xs) (j : Nat) (hj : j < xs.length) :
    ∃ b off A1 c1, A = some ⟨b, off, none⟩ ∧ ∀ V, Below w1.heap.size w1 V → V.cell? ⟨b, off + j * 5, none⟩ = some (.int .i64 xs[j].op) ∧ V.cell? ⟨b, off + j * 5 + 1, none⟩ = some (.int .i64 xs[j].a) ∧ V.cell? ⟨b, off + j * 5 + 2, none⟩ = some (.int .i64 xs[j].b) ∧ V.cell? ⟨b, off + j * 5 + 3, none⟩ = some (.int .i64 xs[j].k) ∧ V.cell? ⟨b, off + j * 5 + 4, none⟩ = some (.slice A1 xs[j].l.length c1) := by
  obtain ⟨b, off, us, rfl, hb, h1, h2⟩ := sm_any h j hj
  obtain ⟨A1, c1, rfl, i1⟩ := insR_at.1 h1
  refine ⟨b, off, A1, c1, rfl, fun V hV => ⟨?_, ?_, ?_, ?_, ?_⟩⟩
  · exact (hV.cell hb).trans (h2 0 (by simp))
  · exact (hV.cell hb).trans (h2 1 (by simp))
  · exact (hV.cell hb).trans (h2 2 (by simp))
  · exact (hV.cell hb).trans (h2 3 (by simp))
  · exact (hV.cell hb).trans (h2 4 (by simp))
structure Plc where
  A0 : Option Addr
  A1 : Option Addr
  A2 : Option Addr
  A3 : Option Addr
  A4 : Option Addr
  d0 : Nat
  d1 : Nat
  d2 : Nat
  d3 : Nat
  d4 : Nat
def noPlc : Plc := ⟨none, none, none, none, none, 0, 0, 0, 0, 0⟩
def Plc.vals (p : Plc) (c : GCtx) : List Value := [.slice p.A0 c.types.length p.d0, .slice p.A1 c.funcs.length p.d1, .slice p.A2 c.globs.length p.d2, .slice p.A3 c.tabs.length p.d3, .slice p.A4 c.mems.length p.d4, .int .i64 c.hosts, .int .i64 c.vars, .int .i64 c.els, .int .i64 c.dats, .bool c.counted]
structure CtxL (w : World) (ok : Nat → Prop) (p : Plc) (c : GCtx) : Prop where
  l0 : Lst ftR w ok p.A0 p.d0 c.types
  l1 : Lst intR w ok p.A1 p.d1 c.funcs
  l2 : Lst varR w ok p.A2 p.d2 c.globs
  l3 : Lst limR w ok p.A3 p.d3 c.tabs
  l4 : Lst limR w ok p.A4 p.d4 c.mems
theorem CtxL.keep {w w' : World} {ok ok' : Nat → Prop} {p : Plc} {c : GCtx} (h : CtxL w ok p c) (hh : ∀ b, ok b → b < w.heap.size → w'.heap[b]? = w.heap[b]? ∧ ok' b) : CtxL w' ok' p c := ⟨h.l0.keep hh, h.l1.keep hh, h.l2.keep hh, h.l3.keep hh, h.l4.keep hh⟩
theorem CtxL.below {w w' : World} {ok : Nat → Prop} {p : Plc} {c : GCtx} (h : CtxL w ok p c) (hb : Below w.heap.size w w') : CtxL w' ok p c := h.keep fun b h1 h2 => ⟨hb.block b h2, h1⟩
theorem ctxl_none (w : World) (ok : Nat → Prop) : CtxL w ok noPlc noC := ⟨lst_none _ _ _, lst_none _ _ _, lst_none _ _ _, lst_none _ _ _, lst_none _ _ _⟩
theorem lst_below {α : Type} {R : Rep α} {w w' : World} {ok : Nat → Prop} {A : Option Addr} {c : Nat} {xs : List α} (h : Lst R w ok A c xs) (hb : Below w.heap.size w w') : Lst R w' ok A c xs := h.keep fun b h1 h2 => ⟨hb.block b h2, h1⟩
def addI (c : GCtx) (x : GImp) : GCtx :=
  if x.kind = 0 then { c with funcs := c.funcs ++ [x.ty] }
  else if x.kind = 1 then { c with tabs := c.tabs ++ [x.lim] }
  else if x.kind = 2 then { c with mems := c.mems ++ [x.lim] }
  else if x.kind = 3 then { c with globs := c.globs ++ [(x.ty, x.mu)] }
  else c
def gath0 (g : GMd) : GCtx := ⟨g.types, [], [], [], [], 0, 0, g.els.length, g.dats.length, decide (0 < g.counts.length)⟩
def gathI (g : GMd) : GCtx := g.imps.foldl addI (gath0 g)
def gathH (c : GCtx) : GCtx := { c with hosts := c.funcs.length, vars := c.globs.length }
def gathF (g : GMd) (c : GCtx) : GCtx := { c with funcs := c.funcs ++ g.funcs.map (fun x => x.ty) }
def gathT (g : GMd) (c : GCtx) : GCtx := { c with tabs := c.tabs ++ g.tabs }
def gathM (g : GMd) (c : GCtx) : GCtx := { c with mems := c.mems ++ g.mems }
def gathG (g : GMd) (c : GCtx) : GCtx := { c with globs := c.globs ++ g.globs.map (fun x => (x.ty, x.mu)) }
def gather (g : GMd) : GCtx := gathG g (gathM g (gathT g (gathF g (gathH (gathI g)))))
def iv (n : Int) : List Value := [.int .i64 n]
def vv (x : GVar) : List Value := [.int .i64 x.1, .bool x.2]
def lv (x : GLim) : List Value := [.int .i64 x.1, .bool x.2.1, .int .i64 x.2.2]
theorem flat_len {α : Type} (f : α → List Value) (k : Nat) (h : ∀ x, (f x).length = k) (xs : List α) : (xs.flatMap f).length = xs.length * k := by
  induction xs with
  | nil => simp
  | cons x xs ih => rw [List.flatMap_cons, List.length_append, h, ih, List.length_cons, Nat.succ_mul, Nat.add_comm]
theorem flat_at {α : Type} (f : α → List Value) (k : Nat) (h : ∀ x, (f x).length = k) (xs : List α) (j i : Nat) (hj : j < xs.length) (hi : i < k) : (xs.flatMap f)[j * k + i]? = (f xs[j])[i]? := by
  induction xs generalizing j with
  | nil => simp at hj
  | cons x xs ih =>
    cases j with
    | zero => rw [List.flatMap_cons, Nat.zero_mul, Nat.zero_add, List.getElem?_append_left (by rw [h]; exact hi)]; rfl
    | succ j =>
      rw [List.flatMap_cons, Nat.succ_mul, List.getElem?_append_right (by rw [h]; omega), h, show j * k + k + i - k = j * k + i from by omega, ih j (by simpa using hj)]
      simp
structure Src (w : World) (k : Nat) (X : Option Addr) (m cx : Nat) (news : List Value) : Prop where
  len : news.length = m * k
  nil : X = none → m = 0 ∧ cx = 0
  at_ : ∀ a, X = some a → ∀ j u, news[j]? = some u → w.cell? (a.add j) = some u
theorem src_lst {α : Type} {R : Rep α} {w : World} {ok : Nat → Prop} {A : Option Addr} {c : Nat} {xs : List α} (f : α → List Value) (hf : ∀ us x, R.at_ w ok us x → us = f x) (hk : ∀ x, (f x).length = R.k) (h : Lst R w ok A c xs) : Src w R.k A xs.length c (xs.flatMap f) := by
  refine ⟨flat_len f _ hk xs, fun e => ?_, fun a e j u hu => ?_⟩
  · refine ⟨?_, h.nil e⟩
    have h1 := h.nil e
    have h2 := h.room
    omega
  · have hlt : j < xs.length * R.k := by
      rw [← flat_len f _ hk xs]
      exact (List.getElem?_eq_some_iff.1 hu).1
    have hp := R.pos
    have hl : 0 < xs.length := by
      rcases Nat.eq_zero_or_pos xs.length with h0 | h0
      · rw [h0] at hlt; omega
      · exact h0
    obtain ⟨b, off, e', _, hc⟩ := h.row hl
    rw [e] at e'
    injection e' with e'
    subst e'
    have hq : j / R.k < xs.length := by rw [Nat.div_lt_iff_lt_mul hp]; exact hlt
    have hr := Nat.mod_lt j hp
    obtain ⟨us, h1, h2⟩ := hc (j / R.k) hq
    have h3 := hf _ _ h1
    subst h3
    have h4 := flat_at f _ hk xs (j / R.k) (j % R.k) hq hr
    have hdm : j / R.k * R.k + j % R.k = j := by rw [Nat.mul_comm]; exact Nat.div_add_mod j R.k
    rw [hdm, hu] at h4
    have hr' : j % R.k < (f xs[j / R.k]).length := by rw [hk]; exact hr
    have h5 := h2 (j % R.k) hr'
    rw [hdm] at h5
    rw [List.getElem?_eq_getElem hr'] at h4
    rw [h4, ← h5]
    unfold Addr.add
    by_cases hj0 : j = 0 <;> simp [hj0]
theorem rowSame {w w' : World} {base k n : Nat} {t : TypeId} {v : Value} {vs : List Value} (h : w.ownsRow base t k v n vs) (hh : ∀ g, v.ownBlock = some g → w'.heap[g]? = w.heap[g]?) : w'.ownsRow base t k v n vs := by
  refine ⟨h.1, h.2.imp id ?_⟩
  rintro ⟨g, cap, cur, rfl, h1, h2, h3⟩
  exact ⟨g, cap, cur, rfl, h1, (hh g rfl).trans h2, h3⟩
theorem rowLt {w : World} {base k n : Nat} {t : TypeId} {v : Value} {vs : List Value} (h : w.ownsRow base t k v n vs) (g : Nat) (hg : v.ownBlock = some g) : base ≤ g ∧ g < w.heap.size := by
  rcases h.2 with ⟨rfl, _⟩ | ⟨g', cap, cur, rfl, h1, h2, _⟩
  · cases hg
  · injection hg with hg
    have hg : g' = g := hg
    subst hg
    exact ⟨h1, (Array.getElem?_eq_some_iff.1 h2).1⟩
theorem rowNe {w : World} {base k n base' k' n' : Nat} {t t' : TypeId} {v v' : Value} {vs vs' : List Value} (h : w.ownsRow base t k v n vs) (h' : w.ownsRow base' t' k' v' n' vs') (ht : t ≠ t') (g : Nat) (hg : v.ownBlock = some g) : v'.ownBlock ≠ some g := by
  intro hg'
  rcases h.2 with ⟨rfl, _⟩ | ⟨g1, cap, cur, rfl, h1, h2, _⟩
  · cases hg
  · rcases h'.2 with ⟨rfl, _⟩ | ⟨g2, cap', cur', rfl, h1', h2', _⟩
    · cases hg'
    · injection hg with hg
      injection hg' with hg'
      have hg : g1 = g := hg
      have hg' : g2 = g := hg'
      subst hg
      subst hg'
      rw [h2] at h2'
      injection h2' with h2'
      injection h2' with _ e _
      exact ht e
theorem own_nil (w : World) (base : Nat) (t : TypeId) (k : Nat) : w.ownsRow base t k (.slice none 0 0) 0 [] := ⟨by simp, .inl ⟨rfl, rfl⟩⟩
theorem far_set {w : World} {b : Nat} {p : Addr} (h : p.block ≠ b) (v : Value) : (w.setCell p v).heap[b]? = w.heap[b]? := Below.heap_setCell _ _ _ _ (fun e => h e.symm)
theorem blk_set {w : World} {b : Nat} {cur : Array Value} {t : TypeId} {fz : Nat × Nat} (h : w.heap[b]? = some (.cells cur t fz)) (i : Nat) (v : Value) : (w.setCell ⟨b, i, none⟩ v).heap[b]? = some (.cells (cur.setIfInBounds i v) t fz) := by
  unfold World.setCell
  simp [Array.getElem?_modify, h]
theorem blk_cell {w : World} {b : Nat} {cur : Array Value} {t : TypeId} {fz : Nat × Nat} (h : w.heap[b]? = some (.cells cur t fz)) (i : Nat) : w.cell? ⟨b, i, none⟩ = cur[i]? := by
  unfold World.cell?
  simp [h]
theorem blk_free {w : World} {b : Nat} {cur : Array Value} {t : TypeId} (h : w.heap[b]? = some (.cells cur t (0, 0))) (i : Nat) : w.frozen? ⟨b, i, none⟩ = false := by
  unfold World.frozen?
  simp [h]
theorem own_lst {α : Type} {R : Rep α} {w : World} {base n : Nat} {t : TypeId} {A : Option Addr} {c : Nat} {xs : List α} (f : α → List Value) {ok : Nat → Prop} (hf : ∀ x, R.at_ w ok (f x) x) (h : w.ownsRow base t R.k (.slice A n c) n (xs.flatMap f)) (hn : n = xs.length) (ho : ∀ b, (Value.slice A n c).ownBlock = some b → ok b) : Lst R w ok A c xs := by
  have hk : ∀ x, (f x).length = R.k := fun x => R.len (hf x)
  subst hn
  rcases h.2 with ⟨e, h0⟩ | ⟨g, cap, cur, e, hb, h2, h3, h4, h5, h6⟩
  · injection e with e1 _ e3
    subst e1 e3
    have : xs = [] := List.length_eq_zero_iff.1 h0
    subst this
    exact lst_none _ _ _
  · injection e with e1 _ e3
    subst e1 e3
    refine ⟨fun hl => ⟨g, 0, rfl, ho g rfl, fun j hj => ⟨f xs[j], hf _, fun i hi => ?_⟩⟩, (fun e => by cases e), h3⟩
    rw [blk_cell h2, Nat.zero_add]
    have hi' : i < R.k := by rw [← hk xs[j]]; exact hi
    have hlt : j * R.k + i < xs.length * R.k := by
      have : (j + 1) * R.k ≤ xs.length * R.k := Nat.mul_le_mul_right _ hj
      rw [Nat.succ_mul] at this
      omega
    have h7 := flat_at f _ hk xs j i hj hi'
    rw [List.getElem?_eq_getElem hi, ← h6, List.getElem?_take, if_pos hlt] at h7
    rw [← h7]
    simp
end Go.Proofs.Ytdcolpmmojiffaa.Cx
