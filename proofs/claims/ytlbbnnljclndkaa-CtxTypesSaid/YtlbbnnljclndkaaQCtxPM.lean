/-
  CtxPM: What a module that is right has: in plain words. No condition; nothing of the program.
-/
import Derived.Test.YtlbbnnljclndkaaQCtxOf
import Derived.Test.YtlbbnnljclndkaaQModShB
namespace Go.Proofs.Ytlbbnnljclndkaa.Cx
open Go.RowKit Leb
open _root_.Go.Proofs.Ytlbbnnljclndkaa.Mod

theorem sm_of {g : GMd} (h : Sh.P8 g) (hg : Opn.GIn g) : Sm g := by
  obtain ⟨⟨⟨⟨⟨⟨⟨⟨p0, p1⟩, p2⟩, p3⟩, p4⟩, p5⟩, p6⟩, p7⟩, p8⟩ := h
  obtain ⟨n0, n1, n2, n3, n4, n5, n6, n7, n8, n9, n10, n11⟩ := Sh.p0_len p0
  exact ⟨by omega, by omega, by omega, by omega, by omega, by omega, by omega, by omega, by omega, by omega, fun x hx => p1 x hx, fun x hx => (p3 x hx).1, fun x hx => (p6 x hx).1, fun x hx => (hg.expos.1 x hx).1⟩
theorem looks_zero {g : GMd} (h : ofE g = 0) : ∀ e ∈ looks (gather g) g, e = 0 := fun e he => each_zero (f := fun e => e) h e he
structure Right (g : GMd) : Prop where
  imps : ∀ x ∈ g.imps, impE (gather g) x = 0
  funcs : ∀ x ∈ g.funcs, tyE (gather g) x.ty = 0
  tabs : ∀ x ∈ g.tabs, tabE x = 0
  mems : ∀ x ∈ g.mems, memE x = 0
  one : oneE (gather g) = 0
  globs : ∀ x ∈ g.globs, globE (gather g) x = 0
  expos : expE (gather g) [] g.expos = 0
  starts : ∀ x ∈ g.starts, startE (gather g) x = 0
  els : ∀ x ∈ g.els, elE (gather g) x = 0
  dats : ∀ x ∈ g.dats, datE (gather g) x = 0
  locals : ∀ x ∈ g.funcs, locE (gather g) x = 0
theorem right_iff {g : GMd} : ofE g = 0 ↔ Right g := by
  constructor
  · intro h
    have k := looks_zero h
    simp only [looks, List.mem_cons, List.not_mem_nil, or_false] at k
    exact ⟨each_zero (k _ (by simp)), each_zero (f := fun x : GFn => tyE (gather g) x.ty) (k _ (by simp)), each_zero (k _ (by simp)), each_zero (k _ (by simp)), k _ (by simp), each_zero (k _ (by simp)), k _ (by simp), each_zero (k _ (by simp)), each_zero (k _ (by simp)), each_zero (k _ (by simp)), each_zero (k _ (by simp))⟩
  · intro h
    refine each_all (f := fun e => e) fun e he => ?_
    simp only [looks, List.mem_cons, List.not_mem_nil, or_false] at he
    rcases he with rfl | rfl | rfl | rfl | rfl | rfl | rfl | rfl | rfl | rfl | rfl
    · exact each_all h.imps
    · exact each_all h.funcs
    · exact each_all h.tabs
    · exact each_all h.mems
    · exact h.one
    · exact each_all h.globs
    · exact h.expos
    · exact each_all h.starts
    · exact each_all h.els
    · exact each_all h.dats
    · exact each_all h.locals
theorem gather_hosts (g : GMd) : (gather g).hosts + (g.funcs.length : Int) = ((gather g).funcs.length : Int) ∧ (gather g).vars + (g.globs.length : Int) = ((gather g).globs.length : Int) := by
  simp [gather, gathG, gathM, gathT, gathF, gathH]
theorem one_le {c : GCtx} (h : oneE c = 0) : c.tabs.length ≤ 1 ∧ c.mems.length ≤ 1 := by
  unfold oneE at h
  split at h
  · cases h
  · split at h
    · cases h
    · omega
theorem fold_funcs (P : Int → Prop) (l : List GImp) (c : GCtx) (h : ∀ f ∈ c.funcs, P f) (hl : ∀ x ∈ l, x.kind = 0 → P x.ty) : ∀ f ∈ (l.foldl addI c).funcs, P f := by
  induction l generalizing c with
  | nil => exact h
  | cons x l ih =>
    refine ih (addI c x) ?_ fun y hy => hl y (by simp [hy])
    unfold addI
    by_cases h0 : x.kind = 0
    · simp only [h0, if_true]
      intro f hf
      rcases List.mem_append.1 hf with hf | hf
      · exact h f hf
      · have : f = x.ty := by simpa using hf
        rw [this]; exact hl x (by simp) h0
    · simp only [h0, if_false]
      repeat' split
      all_goals exact h
theorem ty_in {c : GCtx} {t : Int} (h : tyE c t = 0) : inB t c.types.length = true := by
  unfold tyE at h
  split at h
  · assumption
  · cases h
theorem funcs_in {g : GMd} (h : Right g) : ∀ f ∈ (gather g).funcs, inB f (gather g).types.length = true := by
  have e : (gather g).funcs = (gathI g).funcs ++ g.funcs.map (fun x : GFn => x.ty) := rfl
  rw [e]
  intro f hf
  rcases List.mem_append.1 hf with hf | hf
  · exact fold_funcs (fun f => inB f (gather g).types.length = true) g.imps (gath0 g) (by simp [gath0]) (fun x hx h0 => by
      have := h.imps x hx
      unfold impE at this
      rw [if_pos h0] at this
      exact ty_in this) f hf
  · obtain ⟨x, hx, rfl⟩ := List.mem_map.1 hf
    exact ty_in (h.funcs x hx)
theorem hasTy_all {g : GMd} (h : Right g) (i : Nat) (hi : i < (gather g).funcs.length) : hasTy (gather g) (i : Int) = true := by
  unfold hasTy
  rw [inB_iff.2 ⟨i, rfl, hi⟩, getD_at _ _ i hi, funcs_in h _ (List.getElem_mem hi)]
  rfl
theorem ent_in {c : GCtx} {f : Int} (h : entE c f = 0) : f = -1 ∨ inB f c.funcs.length = true := by
  unfold entE at h
  split at h
  · cases h
  · rename_i hh
    by_cases e : f = -1
    · exact .inl e
    · refine .inr ?_
      cases hb : inB f c.funcs.length with
      | true => rfl
      | false => exact absurd ⟨e, hb⟩ hh
theorem els_in {g : GMd} (h : Right g) (x : GEl) (hx : x ∈ g.els) (f : Int) (hf : f ∈ x.fs) : f = -1 ∨ inB f (gather g).funcs.length = true := by
  have h1 := h.els x hx
  unfold elE firstE at h1
  have h2 := each_zero h1 (eachE (entE (gather g)) x.fs) (by simp)
  exact ent_in (each_zero h2 f hf)
/-! ### Without exports, starts and segments -/
def less (g : GMd) : GMd := { g with expos := [], starts := [], els := [], dats := [] }
def setED (c : GCtx) (a b : Int) : GCtx := { c with els := a, dats := b }
theorem addI_ED (c : GCtx) (a b : Int) (x : GImp) : addI (setED c a b) x = setED (addI c x) a b := by
  unfold addI setED
  repeat' split
  all_goals rfl
theorem fold_ED (l : List GImp) (c : GCtx) (a b : Int) : l.foldl addI (setED c a b) = setED (l.foldl addI c) a b := by
  induction l generalizing c with
  | nil => rfl
  | cons x l ih => rw [List.foldl_cons, addI_ED, ih]; rfl
theorem gather_less (g : GMd) : gather (less g) = setED (gather g) 0 0 := by
  have e : gathI (less g) = setED (gathI g) 0 0 := fold_ED g.imps (gath0 g) 0 0
  show gathG (less g) (gathM (less g) (gathT (less g) (gathF (less g) (gathH (gathI (less g)))))) = _
  rw [e]
  rfl
theorem less_right {g : GMd} (h : Right g) : Right (less g) := by
  have e := gather_less g
  constructor
  · rw [e]; exact h.imps
  · rw [e]; exact h.funcs
  · exact h.tabs
  · exact h.mems
  · rw [e]; exact h.one
  · rw [e]; exact h.globs
  · rfl
  · intro x hx; cases hx
  · intro x hx; cases hx
  · intro x hx; cases hx
  · rw [e]; exact h.locals
theorem less_sm {g : GMd} (h : Sm g) : Sm (less g) := ⟨h.types, h.imps, h.funcs, h.tabs, h.mems, h.globs, Nat.zero_le _, Nat.zero_le _, Nat.zero_le _, Nat.zero_le _, h.ft, h.fn, (fun x hx => by cases hx), (fun x hx => by cases hx)⟩
def lessP (p : Pls) : Pls := { p with A6 := none, c6 := 0, A7 := none, c7 := 0, A8 := none, c8 := 0, A10 := none, c10 := 0 }
theorem less_mem {w : World} {ok okF : Nat → Prop} {p : Pls} {g : GMd} (h : MdL w ok okF p g) : MdL w ok okF (lessP p) (less g) := ⟨h.l0, h.l1, h.l2, h.l3, h.l4, h.l5, lst_none _ _ _, lst_none _ _ _, lst_none _ _ _, h.l9, lst_none _ _ _, h.l11⟩
end Go.Proofs.Ytlbbnnljclndkaa.Cx
