/-
  CtxNM: A list grown by what lies in memory, whatever its kind; exports' names, in plain words. No condition; nothing of the program.
-/
import Derived.Test.YtlbbnnljclndkaaQCtxPM
namespace Go.Proofs.Ytlbbnnljclndkaa.Cx
open Go.RowKit Leb
open _root_.Go.Proofs.Ytlbbnnljclndkaa.Mod

/-! ### Exports -/
def ev (x : GExpo) : List Value := [.string x.nm, .int .i64 x.kind, .int .i64 x.idx]
theorem src_expo {w : World} {ok : Nat → Prop} {A : Option Addr} {c : Nat} {xs : List GExpo} (h : Lst expoR w ok A c xs) : Src w 3 A xs.length c (xs.flatMap ev) := src_lst (R := expoR) ev (fun _ _ h => expoR_at.1 h) (fun _ => rfl) h
theorem ones_e (xs : List GExpo) : ∀ u ∈ xs.flatMap ev, u.oneCell' = true := fun u hu => by
  obtain ⟨x, _, h⟩ := List.mem_flatMap.1 hu
  have : u = .string x.nm ∨ u = .int .i64 x.kind ∨ u = .int .i64 x.idx := by simpa [ev] using h
  rcases this with rfl | rfl | rfl <;> rfl
set_option maxRecDepth 100000 in
theorem tyE_ : Ty 27 67 3 := ⟨Try.underlying27, ⟨.agg #[.string ⟨#[]⟩, .int .i64 0, .int .i64 0], 32, by kernel_rfl, rfl, by omega⟩, by omega⟩
theorem own_expo {w : World} {base n : Nat} {A : Option Addr} {c : Nat} {xs : List GExpo} (h : w.ownsRow base 67 3 (.slice A n c) n (xs.flatMap ev)) (hn : n = xs.length) {ok : Nat → Prop} (ho : ∀ b, base ≤ b → ok b) : Lst expoR w ok A c xs := own_lst (R := expoR) ev (fun _ => expoR_at.2 rfl) h hn fun b hb => ho b (rowLt h b hb).1
theorem own_empty (w : World) (base : Nat) (t : TypeId) (k b : Nat) (hb : base ≤ b) (h : w.heap[b]? = some (.cells #[] t (0, 0))) : w.ownsRow base t k (.slice (some ⟨b, 0, none⟩) 0 0) 0 [] := ⟨by simp, .inr ⟨b, 0, #[], rfl, hb, h, Nat.le_refl _, Nat.zero_le _, by simp, by simp⟩⟩
theorem src_blk {w : World} {b k : Nat} {cs : Array Value} {t : TypeId} {fz : Nat × Nat} (h : w.heap[b]? = some (.cells cs t fz)) (hk : cs.size = k) : Src w k (some ⟨b, 0, none⟩) 1 1 cs.toList := by
  refine ⟨by simp [hk], (fun e => by cases e), fun a e j u hu => ?_⟩
  injection e with e
  subst e
  have : (⟨b, 0, none⟩ : Addr).add j = ⟨b, j, none⟩ := by
    unfold Addr.add; by_cases h : j = 0 <;> simp [h]
  rw [this, blk_cell h]
  simpa using hu
/-- The last one's name, set anew. -/
theorem own_name {w : World} {base : Nat} {b c : Nat} {l : List GExpo} {x : GExpo} (h : w.ownsRow base 67 3 (.slice (some ⟨b, 0, none⟩) (l.length + 1) c) (l.length + 1) ((l ++ [x]).flatMap ev)) (nm : ByteArray) :
    (w.setCell ⟨b, l.length * 3, none⟩ (.string nm)).ownsRow base 67 3 (.slice (some ⟨b, 0, none⟩) (l.length + 1) c) (l.length + 1) ((l ++ [{ x with nm := nm }]).flatMap ev) ∧ w.cell? ⟨b, l.length * 3, none⟩ = some (.string x.nm) ∧ w.frozen? ⟨b, l.length * 3, none⟩ = false := by
  rcases h.2 with ⟨e, _⟩ | ⟨g, cap, cur, e, hb, h2, h3, h4, h5, h6⟩
  · cases e
  · injection e with e1 _ e3
    injection e1 with e1
    injection e1 with e1 _ _
    subst e1 e3
    have hl : (l.flatMap ev).length = l.length * 3 := flat_len ev 3 (fun _ => rfl) l
    have hcs : l.length * 3 < cur.size := by rw [h5]; have : (l.length + 1) * 3 ≤ c * 3 := Nat.mul_le_mul_right _ h3; omega
    refine ⟨⟨?_, .inr ⟨b, c, cur.setIfInBounds (l.length * 3) (.string nm), rfl, hb, blk_set h2 _ _, h3, h4, by simpa using h5, ?_⟩⟩, ?_, blk_free h2 _⟩
    · rw [flat_len ev 3 (fun _ => rfl)]; simp
    · rw [Array.toList_setIfInBounds, List.take_set, h6]
      rw [List.flatMap_append, List.flatMap_append]
      have e4 : [x].flatMap ev = .string x.nm :: [.int .i64 x.kind, .int .i64 x.idx] := rfl
      have e5 : [{ x with nm := nm }].flatMap ev = .string nm :: [.int .i64 x.kind, .int .i64 x.idx] := rfl
      rw [e4, e5, List.set_append_right _ _ (by omega), hl, Nat.sub_self]
      rfl
    · rw [blk_cell h2]
      have h7 : (cur.toList.take ((l.length + 1) * 3))[l.length * 3]? = some (.string x.nm) := by
        rw [h6, List.flatMap_append, List.getElem?_append_right (by omega), hl, Nat.sub_self]
        rfl
      rw [List.getElem?_take, if_pos (by omega)] at h7
      simpa using h7
/-! ### Names -/
def withE (g : GMd) (l : List GExpo) : GMd := { g with expos := l }
theorem gather_withE (g : GMd) (l : List GExpo) : gather (withE g l) = gather g := rfl
theorem expE_app (c : GCtx) (l : List GExpo) (seen : List ByteArray) (y : GExpo) : expE c seen (l ++ [y]) = if expE c seen l ≠ 0 then expE c seen l else expE c (seen ++ l.map (fun x => x.nm)) [y] := by
  induction l generalizing seen with
  | nil => simp [expE]
  | cons x l ih =>
    show (if hasN seen x.nm = true then (8 : Int) else if inB x.idx (manyN c x.kind) = true then expE c (seen ++ [x.nm]) (l ++ [y]) else 7) = _
    have e : expE c seen (x :: l) = (if hasN seen x.nm = true then (8 : Int) else if inB x.idx (manyN c x.kind) = true then expE c (seen ++ [x.nm]) l else 7) := rfl
    rw [e]
    by_cases h1 : hasN seen x.nm = true
    · simp only [h1, if_true]; simp
    · by_cases h2 : inB x.idx (manyN c x.kind) = true
      · simp only [h1, h2, if_true, Bool.false_eq_true, if_false]
        rw [ih]
        simp
      · simp [h1, h2]
theorem expE_in (c : GCtx) (l : List GExpo) (seen : List ByteArray) (h : expE c seen l = 0) : ∀ x ∈ l, inB x.idx (manyN c x.kind) = true := by
  induction l generalizing seen with
  | nil => simp
  | cons x l ih =>
    have h' : (if hasN seen x.nm = true then (8 : Int) else if inB x.idx (manyN c x.kind) = true then expE c (seen ++ [x.nm]) l else 7) = 0 := h
    split at h'
    · cases h'
    · split at h'
      · rename_i h2
        intro y hy
        rcases List.mem_cons.1 hy with rfl | hy
        · exact h2
        · exact ih _ h' y hy
      · cases h'
theorem first_app {a b : List Int} (h : ∀ e ∈ a, e = 0) : firstE (a ++ b) = firstE b := by
  induction a with
  | nil => rfl
  | cons e a ih =>
    have he : e = 0 := h e (by simp)
    subst he
    show (if (0 : Int) ≠ 0 then 0 else firstE (a ++ b)) = _
    rw [if_neg (by simp)]
    exact ih fun e he => h e (by simp [he])
/-- With other exports, the rest right. -/
theorem withE_E {g : GMd} (h : Right g) (l : List GExpo) (hl : expE (gather g) [] l = 0 ∨ expE (gather g) [] l = 8) : ofE (withE g l) = expE (gather g) [] l := by
  rcases hl with hl | hl
  · rw [hl]
    exact right_iff.2 ⟨h.imps, h.funcs, h.tabs, h.mems, h.one, h.globs, hl, h.starts, h.els, h.dats, h.locals⟩
  · have e : looks (gather g) (withE g l) = [eachE (impE (gather g)) g.imps, eachE (fun x : GFn => tyE (gather g) x.ty) g.funcs, eachE tabE g.tabs, eachE memE g.mems, oneE (gather g), eachE (globE (gather g)) g.globs] ++ [expE (gather g) [] l, eachE (startE (gather g)) g.starts, eachE (elE (gather g)) g.els, eachE (datE (gather g)) g.dats, eachE (locE (gather g)) g.funcs] := rfl
    unfold ofE lookE
    rw [gather_withE, e, first_app]
    · rw [hl]; rfl
    · intro e he
      simp only [List.mem_cons, List.not_mem_nil, or_false] at he
      rcases he with rfl | rfl | rfl | rfl | rfl | rfl
      · exact each_all h.imps
      · exact each_all h.funcs
      · exact each_all h.tabs
      · exact each_all h.mems
      · exact h.one
      · exact each_all h.globs
theorem again_8 {g : GMd} (h : Right g) (x : GExpo) (hx : x ∈ g.expos) : ofE (withE g (g.expos ++ [x])) = 8 := by
  have h1 : expE (gather g) [] (g.expos ++ [x]) = 8 := by
    rw [expE_app, h.expos, if_neg (by simp)]
    show (if hasN _ x.nm = true then (8 : Int) else _) = 8
    rw [if_pos (hasN_iff.2 (by simpa using ⟨x, hx, rfl⟩))]
  rw [withE_E h _ (.inr h1), h1]
theorem again_0 {g : GMd} (h : Right g) (x : GExpo) (hx : x ∈ g.expos) (nm : ByteArray) (hn : ∀ y ∈ g.expos, y.nm ≠ nm) : ofE (withE g (g.expos ++ [{ x with nm := nm }])) = 0 := by
  have h1 : expE (gather g) [] (g.expos ++ [{ x with nm := nm }]) = 0 := by
    rw [expE_app, h.expos, if_neg (by simp)]
    show (if hasN _ nm = true then (8 : Int) else if inB x.idx (manyN (gather g) x.kind) = true then (0 : Int) else 7) = 0
    rw [if_neg (by
      intro hh
      have := hasN_iff.1 hh
      simp only [List.nil_append, List.mem_map] at this
      obtain ⟨y, hy, e⟩ := this
      exact hn y hy e), if_pos (expE_in _ _ _ h.expos x hx)]
  rw [withE_E h _ (.inl h1), h1]
theorem withE_sm {g : GMd} (h : Sm g) (hl : g.expos.length ≤ 80) (x : GExpo) (hx : x.nm.size ≤ maxLen) : Sm (withE g (g.expos ++ [x])) := ⟨h.types, h.imps, h.funcs, h.tabs, h.mems, h.globs, by simp [withE]; omega, h.starts, h.els, h.dats, h.ft, h.fn, h.el, fun y hy => by
  rcases List.mem_append.1 hy with hy | hy
  · exact h.ex y hy
  · have : y = x := by simpa using hy
    rw [this]; exact hx⟩
end Go.Proofs.Ytlbbnnljclndkaa.Cx
