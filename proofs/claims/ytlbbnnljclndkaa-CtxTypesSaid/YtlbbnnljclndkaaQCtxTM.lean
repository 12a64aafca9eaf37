/-
  CtxTM: A module with one type more, and one passive segment more of each kind: in plain words; and lists that were copied with one thing more. No condition; nothing of the program.
-/
import Derived.Test.YtlbbnnljclndkaaQCtxPM
import Derived.Test.YtlbbnnljclndkaaQCtxNM
namespace Go.Proofs.Ytlbbnnljclndkaa.Cx
open Go.RowKit Leb
open _root_.Go.Proofs.Ytlbbnnljclndkaa.Mod

/-! ### A thing with its cells -/
abbrev EntR {α : Type} (R : Rep α) : Type := { e : α × List Value // e.2.length = R.k }
def withR {α : Type} (R : Rep α) : Rep (EntR R) where
  k := R.k
  pos := R.pos
  at_ w ok us e := us = e.1.2 ∧ R.at_ w ok us e.1.1
  len h := R.len h.2
  keep h hh := ⟨h.1, R.keep h.2 hh⟩
theorem lst_ents {α : Type} {R : Rep α} {w : World} {ok : Nat → Prop} {A : Option Addr} {c : Nat} {xs : List α} (h : Lst R w ok A c xs) : ∃ es : List (EntR R), es.map (fun e => e.1.1) = xs ∧ Lst (withR R) w ok A c es := by
  by_cases hl : 0 < xs.length
  · obtain ⟨b, off, e, hb, hc⟩ := h.row hl
    have hus := fun j : Fin xs.length => Classical.choose_spec (hc j j.2)
    refine ⟨List.ofFn (fun j : Fin xs.length => (⟨(xs[j], Classical.choose (hc j j.2)), R.len (hus j).1⟩ : EntR R)), ?_, ?_⟩
    · apply List.ext_getElem
      · simp
      · intro i h1 h2
        simp
    · refine ⟨fun _ => ⟨b, off, e, hb, fun j hj => ?_⟩, h.nil, by simpa using h.room⟩
      have hj' : j < xs.length := by simpa using hj
      refine ⟨Classical.choose (hc j hj'), ⟨by simp, by simpa using (hus ⟨j, hj'⟩).1⟩, fun i hi => (hus ⟨j, hj'⟩).2 i hi⟩
  · have : xs = [] := List.length_eq_zero_iff.1 (by omega)
    subst this
    exact ⟨[], rfl, ⟨fun hl => by simp at hl, h.nil, h.room⟩⟩
theorem ent_at {α : Type} {R : Rep α} {w : World} {ok : Nat → Prop} {A : Option Addr} {c : Nat} {es : List (EntR R)} (h : Lst (withR R) w ok A c es) : ∀ e ∈ es, R.at_ w ok e.1.2 e.1.1 := by
  intro e he
  obtain ⟨j, hj, rfl⟩ := List.mem_iff_getElem.1 he
  obtain ⟨b, off, _, _, hc⟩ := h.row (by omega)
  obtain ⟨us, ⟨h1, h2⟩, _⟩ := hc j hj
  rwa [h1] at h2
def cellsE {α : Type} {R : Rep α} (es : List (EntR R)) : List Value := es.flatMap fun e => e.1.2
theorem src_ents {α : Type} {R : Rep α} {w : World} {ok : Nat → Prop} {A : Option Addr} {c : Nat} {es : List (EntR R)} (h : Lst (withR R) w ok A c es) : Src w R.k A es.length c (cellsE es) := src_lst (R := withR R) (fun e => e.1.2) (fun _ _ h => h.1) (fun e => e.2) h
theorem un_ents {α : Type} {R : Rep α} {w : World} {ok : Nat → Prop} {A : Option Addr} {c : Nat} {es : List (EntR R)} (h : Lst (withR R) w ok A c es) : Lst R w ok A c (es.map (fun e => e.1.1)) := by
  refine ⟨fun hl => ?_, h.nil, by simpa using h.room⟩
  obtain ⟨b, off, e, hb, hc⟩ := h.row (by simpa using hl)
  refine ⟨b, off, e, hb, fun j hj => ?_⟩
  obtain ⟨us, h1, h2⟩ := hc j (by simpa using hj)
  exact ⟨us, by rw [List.getElem_map]; exact h1.2, h2⟩
theorem own_more {α : Type} {R : Rep α} {w w2 : World} {ok ok2 : Nat → Prop} {es : List (EntR R)} {xs : List α} (hes : es.map (fun e => e.1.1) = xs) (h0 : ∀ e ∈ es, R.at_ w ok e.1.2 e.1.1) (hk : ∀ b, ok b → b < w.heap.size → w2.heap[b]? = w.heap[b]? ∧ ok2 b) {x : α} {us : List Value} (hx : R.at_ w2 ok2 us x) {base n : Nat} {t : TypeId} {A : Option Addr} {c : Nat} (h : w2.ownsRow base t R.k (.slice A n c) n (cellsE es ++ us)) (hn : n = xs.length + 1) (ho : ∀ b, (Value.slice A n c).ownBlock = some b → ok2 b) : Lst R w2 ok2 A c (xs ++ [x]) := by
  subst hes
  have h2 : Lst (withR R) w2 ok2 A c (es ++ [⟨(x, us), R.len hx⟩]) := by
    refine own_lst2 (R := withR R) (fun e : EntR R => e.1.2) (fun e => e.2) ?_ (show w2.ownsRow base t R.k (.slice A n c) n ((es ++ [(⟨(x, us), R.len hx⟩ : EntR R)]).flatMap fun e : EntR R => e.1.2) by rw [List.flatMap_append]; simpa [cellsE] using h) (by simpa using hn) ho
    intro e he
    rcases List.mem_append.1 he with he | he
    · exact ⟨rfl, R.keep (h0 e he) hk⟩
    · have : e = ⟨(x, us), R.len hx⟩ := by simpa using he
      subst this
      exact ⟨rfl, hx⟩
  have h3 := un_ents h2
  rwa [List.map_append] at h3
/-- A list's beginning. -/
theorem lst_front {α : Type} {R : Rep α} {w : World} {ok : Nat → Prop} {A : Option Addr} {c : Nat} {xs ys : List α} (h : Lst R w ok A c (xs ++ ys)) : Lst R w ok A c xs := by
  have hr := h.room
  rw [List.length_append] at hr
  refine ⟨fun hl => ?_, h.nil, by omega⟩
  obtain ⟨b, off, e, hb, hc⟩ := h.row (by rw [List.length_append]; omega)
  refine ⟨b, off, e, hb, fun j hj => ?_⟩
  obtain ⟨us, h1, h2⟩ := hc j (by rw [List.length_append]; omega)
  exact ⟨us, by rwa [List.getElem_append_left hj] at h1, h2⟩
/-! ### The module -/
def pasE : GEl := ⟨1, [], []⟩
def pasD : GDat := ⟨1, [], []⟩
def moreG (g : GMd) (t : GFt) : GMd := { g with types := g.types ++ [t], els := g.els ++ [pasE], dats := g.dats ++ [pasD] }
def setT (c : GCtx) (ts : List GFt) (a b : Int) : GCtx := { c with types := ts, els := a, dats := b }
theorem addI_T (c : GCtx) (ts : List GFt) (a b : Int) (x : GImp) : addI (setT c ts a b) x = setT (addI c x) ts a b := by
  unfold addI setT
  repeat' split
  all_goals rfl
theorem fold_T (l : List GImp) (c : GCtx) (ts : List GFt) (a b : Int) : l.foldl addI (setT c ts a b) = setT (l.foldl addI c) ts a b := by
  induction l generalizing c with
  | nil => rfl
  | cons x l ih => rw [List.foldl_cons, addI_T, ih]; rfl
theorem gather_more (g : GMd) (t : GFt) : gather (moreG g t) = setT (gather g) (g.types ++ [t]) ((g.els.length : Int) + 1) ((g.dats.length : Int) + 1) := by
  have e0 : gath0 (moreG g t) = setT (gath0 g) (g.types ++ [t]) ((g.els.length : Int) + 1) ((g.dats.length : Int) + 1) := by
    unfold gath0 moreG setT
    simp only [List.length_append, List.length_cons, List.length_nil]
    rfl
  have e : gathI (moreG g t) = setT (gathI g) (g.types ++ [t]) ((g.els.length : Int) + 1) ((g.dats.length : Int) + 1) := by
    unfold gathI
    rw [e0]
    exact fold_T g.imps (gath0 g) _ _ _
  show gathG (moreG g t) (gathM (moreG g t) (gathT (moreG g t) (gathF (moreG g t) (gathH (gathI (moreG g t)))))) = _
  rw [e]
  rfl
theorem in_more {k : Int} {n : Nat} (h : inB k n = true) : inB k (n + 1) = true := by
  obtain ⟨j, rfl, hj⟩ := inB_iff.1 h
  exact inB_iff.2 ⟨j, rfl, by omega⟩
theorem tyAt_more {l : List GFt} {t : GFt} {k : Int} (h : inB k l.length = true) : tyAt (l ++ [t]) k = tyAt l k := by
  obtain ⟨j, rfl, hj⟩ := inB_iff.1 h
  unfold tyAt
  rw [h, List.length_append, show [t].length = 1 from rfl, in_more h]
  show (l ++ [t]).getD (j : Int).toNat ([], []) = l.getD (j : Int).toNat ([], [])
  simp only [List.getD_eq_getElem?_getD]
  rw [List.getElem?_append_left (by simpa using hj)]
theorem tyE_more {g : GMd} {ts : List GFt} {t : GFt} {a b k : Int} (ht : (gather g).types = ts) (h : tyE (gather g) k = 0) : tyE (setT (gather g) (ts ++ [t]) a b) k = 0 := by
  have h1 := ty_in h
  rw [ht] at h1
  unfold tyE
  rw [if_pos]
  show inB k (ts ++ [t]).length = true
  rw [List.length_append]
  exact in_more h1
theorem expE_more (c : GCtx) (ts : List GFt) (a b : Int) (seen : List ByteArray) (l : List GExpo) : expE (setT c ts a b) seen l = expE c seen l := by
  induction l generalizing seen with
  | nil => rfl
  | cons x l ih => unfold expE; rw [ih]; rfl
theorem more_right {g : GMd} (t : GFt) (h : Right g) : Right (moreG g t) := by
  have e := gather_more g t
  have ht := gather_types g
  have hfi := funcs_in h
  constructor
  · rw [e]
    intro x hx
    have h1 := h.imps x hx
    unfold impE at h1 ⊢
    split
    · rename_i h0
      rw [if_pos h0] at h1
      exact tyE_more ht h1
    · rename_i h0
      rw [if_neg h0] at h1
      exact h1
  · rw [e]; intro x hx; exact tyE_more ht (h.funcs x hx)
  · exact h.tabs
  · exact h.mems
  · rw [e]; exact h.one
  · rw [e]; exact h.globs
  · rw [e, expE_more]; exact h.expos
  · rw [e]
    intro f hf
    have h1 := h.starts f hf
    have h2 : hasTy (gather g) f = true := by
      unfold startE at h1
      cases hh : hasTy (gather g) f with
      | true => rfl
      | false => rw [hh] at h1; simp at h1
    have h3 : inB f (gather g).funcs.length = true ∧ inB ((gather g).funcs.getD f.toNat 0) (gather g).types.length = true := by
      unfold hasTy at h2
      exact (Bool.and_eq_true _ _).mp h2
    have e1 : hasTy (setT (gather g) (g.types ++ [t]) ((g.els.length : Int) + 1) ((g.dats.length : Int) + 1)) f = true := by
      show (inB f (gather g).funcs.length && inB ((gather g).funcs.getD f.toNat 0) (g.types ++ [t]).length) = true
      have h4 := h3.2
      rw [ht] at h4
      rw [h3.1, List.length_append, show [t].length = 1 from rfl, in_more h4]; rfl
    have e2 : fnTy (setT (gather g) (g.types ++ [t]) ((g.els.length : Int) + 1) ((g.dats.length : Int) + 1)) f = fnTy (gather g) f := by
      show (if inB f (gather g).funcs.length then tyAt (g.types ++ [t]) ((gather g).funcs.getD f.toNat 0) else ([], [])) = (if inB f (gather g).funcs.length then tyAt (gather g).types ((gather g).funcs.getD f.toNat 0) else ([], []))
      have h4 := h3.2
      rw [ht] at h4
      rw [tyAt_more h4, ht]
    unfold startE at h1 ⊢
    rw [e1, e2]
    rw [h2] at h1
    exact h1
  · rw [e]
    intro x hx
    rcases List.mem_append.1 (show x ∈ g.els ++ [pasE] from hx) with hx | hx
    · exact h.els x hx
    · have : x = pasE := by simpa using hx
      subst this
      rfl
  · rw [e]
    intro x hx
    rcases List.mem_append.1 (show x ∈ g.dats ++ [pasD] from hx) with hx | hx
    · exact h.dats x hx
    · have : x = pasD := by simpa using hx
      subst this
      rfl
  · rw [e]
    intro x hx
    have h1 := h.locals x hx
    have h2 := ty_in (h.funcs x hx)
    rw [ht] at h2
    unfold locE at h1 ⊢
    rw [ht] at h1
    rw [show (setT (gather g) (g.types ++ [t]) ((g.els.length : Int) + 1) ((g.dats.length : Int) + 1)).types = g.types ++ [t] from rfl, tyAt_more h2]
    exact h1
theorem more_sm {g : GMd} (h : Sm g) (h0 : g.types.length ≤ 70 ∧ g.els.length ≤ 70 ∧ g.dats.length ≤ 70) (t : GFt) (ht : t.1.length ≤ 3000 ∧ t.2.length ≤ 3000) : Sm (moreG g t) := by
  refine ⟨by show (g.types ++ [t]).length ≤ 100; simp; omega, h.imps, h.funcs, h.tabs, h.mems, h.globs, h.expos, h.starts, by show (g.els ++ [pasE]).length ≤ 100; simp; omega, by show (g.dats ++ [pasD]).length ≤ 100; simp; omega, ?_, h.fn, ?_, h.ex⟩
  · intro x hx
    rcases List.mem_append.1 (show x ∈ g.types ++ [t] from hx) with hx | hx
    · exact h.ft x hx
    · have : x = t := by simpa using hx
      rw [this]; exact ht
  · intro x hx
    rcases List.mem_append.1 (show x ∈ g.els ++ [pasE] from hx) with hx | hx
    · exact h.el x hx
    · have : x = pasE := by simpa using hx
      rw [this]; exact Nat.zero_le _
theorem more_of {g : GMd} (t : GFt) (h : Right g) : ofE (moreG g t) = 0 ∧ ofC (moreG g t) = setT (gather g) (g.types ++ [t]) ((g.els.length : Int) + 1) ((g.dats.length : Int) + 1) := by
  have h0 := right_iff.2 (more_right t h)
  exact ⟨h0, by unfold ofC; rw [if_pos h0]; exact gather_more g t⟩
theorem gather_ED (g : GMd) : (gather g).els = (g.els.length : Int) ∧ (gather g).dats = (g.dats.length : Int) := ⟨(fold_types g.imps (gath0 g)).2.1, (fold_types g.imps (gath0 g)).2.2.1⟩
theorem gather_all2 {g : GMd} (h : Sm g) : (gather g).types.length ≤ 1000 ∧ (gather g).funcs.length ≤ 1000 ∧ (gather g).globs.length ≤ 1000 ∧ (gather g).tabs.length ≤ 1000 ∧ (gather g).mems.length ≤ 1000 := by
  have h1 := fold_few g.imps (gath0 g) 0 ⟨Nat.le_refl _, Nat.le_refl _, Nat.le_refl _, Nat.le_refl _⟩
  have h0 := h.types
  have h2 := h.imps
  have h3 := h.funcs
  have h4 := h.globs
  have h5 := h.tabs
  have h6 := h.mems
  have e0 := gather_types g
  have e1 : (gather g).funcs = (gathI g).funcs ++ g.funcs.map (fun x : GFn => x.ty) := rfl
  have e2 : (gather g).globs = (gathI g).globs ++ g.globs.map (fun x : GGlob => (x.ty, x.mu)) := rfl
  have e3 : (gather g).tabs = (gathI g).tabs ++ g.tabs := rfl
  have e4 : (gather g).mems = (gathI g).mems ++ g.mems := rfl
  rw [e0, e1, e2, e3, e4, List.length_append, List.length_append, List.length_append, List.length_append, List.length_map, List.length_map]
  have k1 := h1.1
  have k2 := h1.2.1
  have k3 := h1.2.2.1
  have k4 := h1.2.2.2
  unfold gathI
  omega
theorem tyEl : Ty 29 49 3 := ⟨Try.underlying29, ⟨.agg #[.int .i64 0, .slice none 0 0, .slice none 0 0], 56, by kernel_rfl, rfl, by omega⟩, by omega⟩
theorem tyDa : Ty 30 52 3 := ⟨Try.underlying30, ⟨.agg #[.int .i64 0, .slice none 0 0, .slice none 0 0], 56, by kernel_rfl, rfl, by omega⟩, by omega⟩
theorem ones_ft {w : World} {ok : Nat → Prop} {es : List (EntR ftR)} (h : ∀ e ∈ es, ftR.at_ w ok e.1.2 e.1.1) : ∀ u ∈ cellsE es, u.oneCell' = true := fun u hu => by
  obtain ⟨e, he, hu⟩ := List.mem_flatMap.1 hu
  obtain ⟨A1, c1, A2, c2, e1, _, _⟩ := ftR_at.1 (h e he)
  rw [e1] at hu
  simp at hu
  rcases hu with rfl | rfl <;> rfl
theorem ones_el {w : World} {ok : Nat → Prop} {es : List (EntR elR)} (h : ∀ e ∈ es, elR.at_ w ok e.1.2 e.1.1) : ∀ u ∈ cellsE es, u.oneCell' = true := fun u hu => by
  obtain ⟨e, he, hu⟩ := List.mem_flatMap.1 hu
  obtain ⟨A1, c1, A2, c2, e1, _, _⟩ := elR_at.1 (h e he)
  rw [e1] at hu
  simp at hu
  rcases hu with rfl | rfl | rfl <;> rfl
theorem ones_dat {w : World} {ok : Nat → Prop} {es : List (EntR datR)} (h : ∀ e ∈ es, datR.at_ w ok e.1.2 e.1.1) : ∀ u ∈ cellsE es, u.oneCell' = true := fun u hu => by
  obtain ⟨e, he, hu⟩ := List.mem_flatMap.1 hu
  obtain ⟨A1, c1, A2, c2, e1, _, _⟩ := datR_at.1 (h e he)
  rw [e1] at hu
  simp at hu
  rcases hu with rfl | rfl | rfl <;> rfl
theorem at_pasE (w : World) (ok : Nat → Prop) : elR.at_ w ok [.int .i64 1, .slice none 0 0, .slice none 0 0] pasE := elR_at.2 ⟨none, 0, none, 0, rfl, lst_none _ _ _, lst_none _ _ _⟩
theorem at_pasD (w : World) (ok : Nat → Prop) : datR.at_ w ok [.int .i64 1, .slice none 0 0, .slice none 0 0] pasD := datR_at.2 ⟨none, 0, none, 0, rfl, lst_none _ _ _, lst_none _ _ _⟩
end Go.Proofs.Ytlbbnnljclndkaa.Cx
