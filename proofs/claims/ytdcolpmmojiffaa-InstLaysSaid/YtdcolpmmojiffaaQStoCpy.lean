/-
  StoCpy: append onto an empty slice within a region that draws its order: what is appended lies in a new block. Conditions as each lemma says.
-/
import Derived.Test.YtdcolpmmojiffaaQStoOwn
import Derived.Deep.RegionHeldLaw
namespace Go.Proofs.Ytdcolpmmojiffaa.Sto
open Go.RowKit Leb Typ

theorem AN.next {w V V' : World} {na : Nat} {p : PSt} {g : GSt} (h : AN w V na p g) (hb : Below V.heap.size V V') : AN w V' na p g := ⟨h.b.trans (hb.mono h.b.size), h.lo, h.box.keep hb h.box.lt, h.res.keep hb h.res.lt⟩
theorem AN.drew {w V : World} {na : Nat} {p : PSt} {g : GSt} (h : AN w V na p g) : AN w V.drew na p g := h.next (Below.refl _ _).drew
theorem box_put {V : World} {b n : Nat} {p : PSt} {g : GSt} (h : BoxS V b p g) (p' : PSt) (g' : GSt) (hne : b ≠ n) : BoxS (putS V n p' g') b p g := by
  unfold putS
  exact (Below.heap_setCell _ _ _ _ hne).trans ((Below.heap_setCell _ _ _ _ hne).trans ((Below.heap_setCell _ _ _ _ hne).trans ((Below.heap_setCell _ _ _ _ hne).trans ((Below.heap_setCell _ _ _ _ hne).trans ((Below.heap_setCell _ _ _ _ hne).trans h)))))
def LeadB {α : Type} (K : Kd α) (lo : Nat) (w : World) (A : Option Addr) (l : List α) : Prop :=
  0 < l.length → ∃ b off, A = some ⟨b, off, none⟩ ∧ lo ≤ b ∧ b < w.heap.size ∧ ∀ (j : Nat) (h : j < l.length), w.cell? ⟨b, off + j, none⟩ = some (K.v l[j])
structure NewS {α : Type} (K : Kd α) (lo : Nat) (w : World) (A : Option Addr) (c : Nat) (l : List α) : Prop where
  lead : LeadB K lo w A l
  room : l.length ≤ c
  nil : A = none → c = 0
section
variable {α : Type} {K : Kd α}
theorem NewS.keep {lo : Nat} {w w' : World} {A : Option Addr} {c : Nat} {l : List α} (h : NewS K lo w A c l) (hb : Below w.heap.size w w') : NewS K lo w' A c l :=
  ⟨fun hl => by
    obtain ⟨b, off, e, h1, h2, h3⟩ := h.lead hl
    exact ⟨b, off, e, h1, Nat.lt_of_lt_of_le h2 hb.size, fun j hj => (hb.cell h2).trans (h3 j hj)⟩, h.room, h.nil⟩
theorem NewS.base {lo lo' : Nat} {w : World} {A : Option Addr} {c : Nat} {l : List α} (h : NewS K lo w A c l) (hl : lo' ≤ lo) : NewS K lo' w A c l :=
  ⟨fun h0 => by
    obtain ⟨b, off, e, h1, h2, h3⟩ := h.lead h0
    exact ⟨b, off, e, by omega, h2, h3⟩, h.room, h.nil⟩
theorem NewS.put {lo n : Nat} {w : World} {A : Option Addr} {c : Nat} {l : List α} (h : NewS K lo w A c l) (p : PSt) (g : GSt) (hn : n < lo) : NewS K lo (putS w n p g) A c l :=
  ⟨fun h0 => by
    obtain ⟨b, off, e, h1, h2, h3⟩ := h.lead h0
    have hb := below_put (n := n) (B := n) (Below.refl n w) p g (Nat.le_refl _)
    refine ⟨b, off, e, h1, by have := hb.size; omega, fun j hj => ?_⟩
    have key : (putS w n p g).heap[b]? = w.heap[b]? := by
      have hne : b ≠ n := by omega
      unfold putS
      exact (Below.heap_setCell _ _ _ _ hne).trans ((Below.heap_setCell _ _ _ _ hne).trans ((Below.heap_setCell _ _ _ _ hne).trans ((Below.heap_setCell _ _ _ _ hne).trans ((Below.heap_setCell _ _ _ _ hne).trans (Below.heap_setCell _ _ _ _ hne)))))
    have := h3 j hj
    unfold World.cell? at this ⊢
    rw [key]
    exact this, h.room, h.nil⟩
theorem NewS.lead' {lo : Nat} {w : World} {A : Option Addr} {c : Nat} {l : List α} (h : NewS K lo w A c l) : Lead K w w.heap.size A l := fun hl => by
  obtain ⟨b, off, e, h1, h2, h3⟩ := h.lead hl
  exact ⟨b, off, e, h2, h3⟩
theorem OwnK.news {w : World} {base : Nat} {A : Option Addr} {n c : Nat} {l : List α} (h : OwnK K w base (.slice A n c) l) : NewS K base w A c l := by
  obtain ⟨h1, h2, h3⟩ := lead_own h
  refine ⟨fun hl => ?_, h2, h3⟩
  obtain ⟨b, off, e, h4, h5⟩ := h1 hl
  subst e
  exact ⟨b, off, rfl, (h.lt b rfl).1, h4, h5⟩
set_option linter.unusedSimpArgs false in
set_option maxRecDepth 100000 in
theorem run_app_e (K : Kd α) (ty : TypeId) (e : Nat) (A : Option Addr) (c : Nat) (l : List α) (w : World) (B : Nat) (hl : Lead K w B A l) (hnil : A = none → c = 0) (hlen : l.length * 8 ≤ 140737488355328) :
    ∃ A' c' w', (Builtin.append_ #[K.st, K.st] ty #[.slice (some ⟨e, 0, none⟩) 0 0, .slice A l.length c]).run Try.prog w = .ok (.slice A' l.length c') w' ∧ NewS K w.heap.size w' A' c' l ∧ Below w.heap.size w w' := by
  obtain ⟨i0, hi0, hz0, hz1, hz2⟩ := info_parts K.info
  have hb8 := K.b8
  rcases Nat.eq_zero_or_pos l.length with h0 | h0
  · refine ⟨some ⟨e, 0, none⟩, 0, w, ?_, ⟨fun h => by omega, by omega, fun h => by cases h⟩, Below.refl _ _⟩
    rw [h0]
    cases A with
    | none => simp [Builtin.append_, run_underlying K.und, sizeOf, typeInfo, hi0, Builtin.lenOf, Builtin.firstCells, storeCells]
    | some ad => simp [Builtin.append_, run_underlying K.und, sizeOf, typeInfo, hi0, Builtin.lenOf, Builtin.firstCells, loadCells, loadCellsFrom, storeCells]
  · obtain ⟨b, off, rfl, hbB, hcell⟩ := hl h0
    have hl' : Lead K w B (some ⟨b, off, none⟩) l := fun _ => ⟨b, off, rfl, hbB, hcell⟩
    have hby : l.length * i0.bytes ≤ 140737488355328 := by rw [hz2]; exact Nat.le_trans (Nat.mul_le_mul_left _ hb8) hlen
    have hr := run_append_grow (P := Try.prog) w K.st ty K.et i0 (K.v K.z) K.und hi0 hz0 ⟨e, 0, none⟩ 0 0 [] (by simp) (by simp) ⟨b, off, none⟩ l.length c (l.map K.v) (by rw [hz1]; simp) hl'.src (by omega) (by omega) (growslice_fits (by omega) (by simpa using hby))
    rw [Nat.zero_add] at hr
    have hge := grownCap_ge w l.length 0 K.et
    refine ⟨_, _, _, hr, ⟨fun _ => ⟨w.heap.size, 0, rfl, Nat.le_refl _, by simp, fun j hj => ?_⟩, hge, fun h => by cases h⟩, ((Below.refl w.heap.size w).drew).alloc (Nat.le_refl _) _⟩
    unfold World.cell?
    have hh : (w.drew.alloc (.cells (#[] ++ (l.map K.v).toArray ++ Builtin.zeroCells (K.v K.z).cells (grownCap w l.length 0 K.et - l.length)) K.et)).heap[w.heap.size]? = some (.cells (#[] ++ (l.map K.v).toArray ++ Builtin.zeroCells (K.v K.z).cells (grownCap w l.length 0 K.et - l.length)) K.et (0, 0)) := heap_alloc_new w.drew _
    simp only [Nat.zero_add]
    rw [show (w.drew.alloc (.cells ([].toArray ++ (l.map K.v).toArray ++ Builtin.zeroCells (K.v K.z).cells (grownCap w l.length 0 K.et - l.length)) K.et)).heap[w.heap.size]? = _ from hh]
    simp [Array.getElem?_append_left, hj]
variable {ops : Array Oper} {o : Oper} {a : Act} {w : World} {K' : Act → World → Prop} {Q : Exit → Act → World → Prop} {E : Prop}
theorem step_app_e (K : Kd α) (hgd : o.guard = none) (s x : Operand) (ho : o.op = .call { callee := .builtin .append, args := #[s, x], argTypes := #[K.st, K.st] }) (e : Nat) (hs : a.eval s = .slice (some ⟨e, 0, none⟩) 0 0) (A : Option Addr) (c : Nat) (l : List α) (hx : a.eval x = .slice A l.length c) (B : Nat) (hl : Lead K w B A l) (hnil : A = none → c = 0) (hlen : l.length * 8 ≤ 140737488355328)
    (h : ∀ A' c' w', NewS K w.heap.size w' A' c' l → Below w.heap.size w w' → K' (a.put o.dst (.slice A' l.length c')) w') : if Region.wanted o (yielded ops a.tmps) = true then Oper.wp Try.prog o a w K' Q else E := by
  have hw : Region.wanted o (yielded ops a.tmps) = true := by simp [Region.wanted, hgd]
  rw [if_pos hw]
  obtain ⟨A', c', w', hr, h1, h2⟩ := run_app_e K o.type e A c l w B hl hnil hlen
  exact Lib.wp_append_run w s x K.st K.st ho _ _ hs hx _ w' hr (h A' c' w' h1 h2)
end
end Go.Proofs.Ytdcolpmmojiffaa.Sto
