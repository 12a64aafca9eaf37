/-
  CtxLk0: What a module's parts say of one another, in plain words. No condition; nothing of the program.
-/
import Derived.Test.YtdcolpmmojiffaaQCtxRep
namespace Go.Proofs.Ytdcolpmmojiffaa.Cx
open Go.RowKit Leb
open _root_.Go.Proofs.Ytdcolpmmojiffaa.Mod

def inB (k : Int) (n : Nat) : Bool := decide (0 ≤ k) && decide (k < (n : Int))
def tyAt (l : List GFt) (t : Int) : GFt := if inB t l.length then l.getD t.toNat ([], []) else ([], [])
def tyE (c : GCtx) (t : Int) : Int := if inB t c.types.length then 0 else 7
def bndE (mn : Int) (cp : Bool) (mx gr dn : Int) : Int := if mn < 0 ∨ gr < mn ∨ (cp = true ∧ (gr < mx ∨ mx < mn)) then 5 else if dn < mn then 4 else 0
def tabE (l : GLim) : Int := bndE l.1 l.2.1 l.2.2 9223372036854775807 64
def memE (l : GLim) : Int := bndE l.1 l.2.1 l.2.2 65536 4
def impE (c : GCtx) (x : GImp) : Int := if x.kind = 0 then tyE c x.ty else if x.kind = 1 then tabE x.lim else if x.kind = 2 then memE x.lim else 0
def oneE (c : GCtx) : Int := if 1 < c.tabs.length then 3 else if 1 < c.mems.length then 8 else 0
def constB (c : GCtx) (l : List Ins.Ins) (t : Int) : Bool :=
  match l with
  | [x, y] => decide (y.op = 11) && (if x.op = 65 then decide (t = 127) else if x.op = 66 then decide (t = 126) else if x.op = 35 then decide (0 ≤ x.a) && decide (x.a < min c.vars (c.globs.length : Int)) && decide (c.globs.getD x.a.toNat (0, false) = (t, false)) else false)
  | _ => false
def globE (c : GCtx) (x : GGlob) : Int := if constB c x.init x.ty then 0 else 6
def manyN (c : GCtx) (k : Int) : Nat := if k = 0 then c.funcs.length else if k = 1 then c.tabs.length else if k = 2 then c.mems.length else if k = 3 then c.globs.length else 0
def hasN (seen : List ByteArray) (s : ByteArray) : Bool := seen.any fun r => r.data == s.data
def expE (c : GCtx) : List ByteArray → List GExpo → Int
  | _, [] => 0
  | seen, x :: l => if hasN seen x.nm then 8 else if inB x.idx (manyN c x.kind) then expE c (seen ++ [x.nm]) l else 7
def hasTy (c : GCtx) (f : Int) : Bool := inB f c.funcs.length && inB (c.funcs.getD f.toNat 0) c.types.length
def fnTy (c : GCtx) (f : Int) : GFt := if inB f c.funcs.length then tyAt c.types (c.funcs.getD f.toNat 0) else ([], [])
def startE (c : GCtx) (f : Int) : Int := if hasTy c f then (if 0 < (fnTy c f).1.length ∨ 0 < (fnTy c f).2.length then 6 else 0) else 7
def laidE (c : GCtx) (mode : Int) (off : List Ins.Ins) (n : Nat) : Int := if mode ≠ 0 then 0 else if n = 0 then 7 else if constB c off 127 then 0 else 6
def entE (c : GCtx) (f : Int) : Int := if f ≠ -1 ∧ inB f c.funcs.length = false then 7 else 0
def eachE {α : Type} (f : α → Int) : List α → Int
  | [] => 0
  | x :: l => if f x ≠ 0 then f x else eachE f l
def firstE (l : List Int) : Int := eachE (fun e => e) l
def elE (c : GCtx) (x : GEl) : Int := firstE [laidE c x.mode x.off c.tabs.length, eachE (entE c) x.fs]
def datE (c : GCtx) (x : GDat) : Int := laidE c x.mode x.off c.mems.length
def locE (c : GCtx) (x : GFn) : Int := if 64 < (tyAt c.types x.ty).1.length + x.locals.length then 4 else 0
def looks (c : GCtx) (g : GMd) : List Int := [eachE (impE c) g.imps, eachE (fun x : GFn => tyE c x.ty) g.funcs, eachE tabE g.tabs, eachE memE g.mems, oneE c, eachE (globE c) g.globs, expE c [] g.expos, eachE (startE c) g.starts, eachE (elE c) g.els, eachE (datE c) g.dats, eachE (locE c) g.funcs]
def lookE (c : GCtx) (g : GMd) : Int := firstE (looks c g)
def ofE (g : GMd) : Int := lookE (gather g) g
def ofC (g : GMd) : GCtx := if ofE g = 0 then gather g else noC
theorem each_all {α : Type} {f : α → Int} {l : List α} (h : ∀ x ∈ l, f x = 0) : eachE f l = 0 := by
  induction l with
  | nil => rfl
  | cons x l ih => simp only [eachE, h x (by simp), ne_eq, not_true_eq_false, if_false]; exact ih fun y hy => h y (by simp [hy])
theorem each_hit {α : Type} {f : α → Int} {l : List α} {j : Nat} (hj : j < l.length) (h : ∀ x ∈ l.take j, f x = 0) (h2 : f l[j] ≠ 0) : eachE f l = f l[j] := by
  induction l generalizing j with
  | nil => simp at hj
  | cons x l ih =>
    cases j with
    | zero => simp only [List.getElem_cons_zero] at h2 ⊢; simp [eachE, h2]
    | succ j =>
      have hx : f x = 0 := h x (by simp)
      simp only [eachE, hx, ne_eq, not_true_eq_false, if_false, List.getElem_cons_succ]
      exact ih (by simpa using hj) (fun y hy => h y (by simp [hy])) (by simpa using h2)
theorem all_next {α : Type} {P : α → Prop} {xs : List α} {j : Nat} (hj : j < xs.length) (h : ∀ x ∈ xs.take j, P x) (h2 : P xs[j]) : ∀ x ∈ xs.take (j + 1), P x := fun x hx => by
  rw [List.take_succ_eq_append_getElem hj] at hx
  rcases List.mem_append.1 hx with hx | hx
  · exact h x hx
  · have : x = xs[j] := by simpa using hx
    rw [this]; exact h2
theorem all_whole {α : Type} {P : α → Prop} {xs : List α} {j : Nat} (hj : ¬ j < xs.length) (h : ∀ x ∈ xs.take j, P x) : ∀ x ∈ xs, P x := by
  rwa [List.take_of_length_le (by omega)] at h
def NumIs (w : World) (n : Int) (en : Ending) (w' : World) : Prop := en = .returned (.int .i64 n) ∧ Below w.heap.size w w'
def BoolIs (w : World) (b : Bool) (en : Ending) (w' : World) : Prop := en = .returned (.bool b) ∧ Below w.heap.size w w'
end Go.Proofs.Ytdcolpmmojiffaa.Cx
