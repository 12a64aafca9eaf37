/-
  InsRdIns: instr's reader: its method instr, form by form, then at any code; instr.One. Conditions: the reader's cells, the bytes that it leads to.
-/
import Derived.Test.YtdipgokbfjbgfaaInsRds
import Derived.Test.YtdipgokbfjbgfaaInsForms
import Derived.Test.YtdipgokbfjbgfaaInsOwn
namespace Go.Proofs.Ytdipgokbfjbgfaa.Ins
open Go.RowKit Leb Typ

theorem ownI_lo {w : World} {b b' : Nat} {v : Value} {l : List Int} (h : OwnI w b v l) (hb : b' ≤ b) : OwnI w b' v l := by
  refine ⟨h.1, ?_⟩
  rcases h.2 with ⟨rfl, h0⟩ | ⟨g, cap, cur, rfl, h1, h2, h3, h4, h5⟩
  · exact .inl ⟨rfl, h0⟩
  · exact .inr ⟨g, cap, cur, rfl, by omega, h2, h3, h4, h5⟩
theorem ownI_set {w : World} {b g i : Nat} {v u : Value} {l : List Int} (h : OwnI w b v l) (hg : g < b) : OwnI (w.setCell ⟨g, i, none⟩ u) b v l := ownsRow_setCell_below h (by simpa using hg) u
/-- While an instruction is read: the reader, the box of the result and that of the instruction. -/
structure Wk (w W : World) (r : Nat) (S : Value) (p e g0 g1 : Nat) (y : Ins) (v : Value) : Prop where
  rd : Rd W r S p e
  grown : w.grownBy W (some r)
  lr : r < w.heap.size
  lo : w.heap.size ≤ g0
  lt : g0 < g1
  hi : g1 < W.heap.size
  x0 : W.cell? ⟨g1, 0, none⟩ = some (.int .i64 y.op)
  x1 : W.cell? ⟨g1, 1, none⟩ = some (.int .i64 y.a)
  x2 : W.cell? ⟨g1, 2, none⟩ = some (.int .i64 y.b)
  x3 : W.cell? ⟨g1, 3, none⟩ = some (.int .i64 y.k)
  x4 : W.cell? ⟨g1, 4, none⟩ = some v
  f1 : W.frozen? ⟨g1, 1, none⟩ = false
  f2 : W.frozen? ⟨g1, 2, none⟩ = false
  f3 : W.frozen? ⟨g1, 3, none⟩ = false
  f4 : W.frozen? ⟨g1, 4, none⟩ = false
  r0 : W.cell? ⟨g0, 0, none⟩ = some (.int .i64 0)
  r1 : W.cell? ⟨g0, 1, none⟩ = some (.int .i64 0)
  r2 : W.cell? ⟨g0, 2, none⟩ = some (.int .i64 0)
  r3 : W.cell? ⟨g0, 3, none⟩ = some (.int .i64 0)
  r4 : W.cell? ⟨g0, 4, none⟩ = some (.slice none 0 0)
  z0 : W.frozen? ⟨g0, 0, none⟩ = false
  z1 : W.frozen? ⟨g0, 1, none⟩ = false
  z2 : W.frozen? ⟨g0, 2, none⟩ = false
  z3 : W.frozen? ⟨g0, 3, none⟩ = false
  z4 : W.frozen? ⟨g0, 4, none⟩ = false
  own : OwnI W (g1 + 1) v y.l
theorem Wk.go {w W W' : World} {r p e p' e' g0 g1 : Nat} {S v : Value} {y : Ins} (h : Wk w W r S p e g0 g1 y v) (hr : Rd W' r S p' e') (hg : W.grownBy W' (some r)) : Wk w W' r S p' e' g0 g1 y v := by
  have hlr := h.lr; have hlo := h.lo; have hlt := h.lt; have hhi := h.hi
  have h0 := hg.block g0 (by omega) (by simp; omega)
  have h1 := hg.block g1 (by omega) (by simp; omega)
  have C0 : ∀ i, W'.cell? ⟨g0, i, none⟩ = W.cell? ⟨g0, i, none⟩ := fun i => World.cell?_of_block h0
  have C1 : ∀ i, W'.cell? ⟨g1, i, none⟩ = W.cell? ⟨g1, i, none⟩ := fun i => World.cell?_of_block h1
  have F0 : ∀ i, W'.frozen? ⟨g0, i, none⟩ = W.frozen? ⟨g0, i, none⟩ := fun i => World.frozen?_of_block h0
  have F1 : ∀ i, W'.frozen? ⟨g1, i, none⟩ = W.frozen? ⟨g1, i, none⟩ := fun i => World.frozen?_of_block h1
  exact ⟨hr, by_trans h.grown hg, hlr, hlo, hlt, Nat.lt_of_lt_of_le hhi hg.size, (C1 _).trans h.x0, (C1 _).trans h.x1, (C1 _).trans h.x2, (C1 _).trans h.x3, (C1 _).trans h.x4, (F1 _).trans h.f1, (F1 _).trans h.f2, (F1 _).trans h.f3, (F1 _).trans h.f4,
    (C0 _).trans h.r0, (C0 _).trans h.r1, (C0 _).trans h.r2, (C0 _).trans h.r3, (C0 _).trans h.r4, (F0 _).trans h.z0, (F0 _).trans h.z1, (F0 _).trans h.z2, (F0 _).trans h.z3, (F0 _).trans h.z4, ownI_by h.own hg (by omega)⟩
theorem Wk.keep {w W W' : World} {r p e g0 g1 : Nat} {S v : Value} {y : Ins} (h : Wk w W r S p e g0 g1 y v) (hb : Below W.heap.size W W') : Wk w W' r S p e g0 g1 y v := h.go (h.rd.keep hb) (by_below hb _)
theorem Wk.nr {w W : World} {r p e g0 g1 : Nat} {S v : Value} {y : Ins} (h : Wk w W r S p e g0 g1 y v) : r ≠ g1 ∧ r ≠ g0 ∧ g0 ≠ g1 := by have hlr := h.lr; have hlo := h.lo; have hlt := h.lt; omega
section
variable {w W : World} {r p e g0 g1 : Nat} {S v : Value} {y : Ins} (h : Wk w W r S p e g0 g1 y v)
include h
theorem Wk.rest (i : Nat) (u : Value) : Rd (W.setCell ⟨g1, i, none⟩ u) r S p e ∧ w.grownBy (W.setCell ⟨g1, i, none⟩ u) (some r) ∧ OwnI (W.setCell ⟨g1, i, none⟩ u) (g1 + 1) v y.l := by
  have hlr := h.lr; have hlo := h.lo; have hlt := h.lt
  exact ⟨h.rd.step (by simp) (Below.heap_setCell _ _ _ _ (by simp; omega)), ⟨h.grown.os, h.grown.tape, h.grown.output, by simpa using h.grown.size, fun k hk hne => (Below.heap_setCell _ _ _ _ (by simp; omega)).trans (h.grown.block k hk hne)⟩, ownI_set h.own (by omega)⟩
theorem Wk.setA (n : Int) : Wk w (W.setCell ⟨g1, 1, none⟩ (.int .i64 n)) r S p e g0 g1 { y with a := n } v := by
  obtain ⟨hr, hg, ho⟩ := h.rest 1 (.int .i64 n)
  obtain ⟨n1, n2, n3⟩ := h.nr
  exact ⟨hr, hg, h.lr, h.lo, h.lt, by simpa using h.hi, (World.cell?_setCell_other _ _ _ _ (by simp)).trans h.x0, World.cell?_setCell_same _ _ _ h.x1, (World.cell?_setCell_other _ _ _ _ (by simp)).trans h.x2, (World.cell?_setCell_other _ _ _ _ (by simp)).trans h.x3, (World.cell?_setCell_other _ _ _ _ (by simp)).trans h.x4, by simpa using h.f1, by simpa using h.f2, by simpa using h.f3, by simpa using h.f4,
    (World.cell?_setCell_other _ _ _ _ (by simp)).trans h.r0, (World.cell?_setCell_other _ _ _ _ (by simp)).trans h.r1, (World.cell?_setCell_other _ _ _ _ (by simp)).trans h.r2, (World.cell?_setCell_other _ _ _ _ (by simp)).trans h.r3, (World.cell?_setCell_other _ _ _ _ (by simp)).trans h.r4, by simpa using h.z0, by simpa using h.z1, by simpa using h.z2, by simpa using h.z3, by simpa using h.z4, ho⟩
theorem Wk.setB (n : Int) : Wk w (W.setCell ⟨g1, 2, none⟩ (.int .i64 n)) r S p e g0 g1 { y with b := n } v := by
  obtain ⟨hr, hg, ho⟩ := h.rest 2 (.int .i64 n)
  obtain ⟨n1, n2, n3⟩ := h.nr
  exact ⟨hr, hg, h.lr, h.lo, h.lt, by simpa using h.hi, (World.cell?_setCell_other _ _ _ _ (by simp)).trans h.x0, (World.cell?_setCell_other _ _ _ _ (by simp)).trans h.x1, World.cell?_setCell_same _ _ _ h.x2, (World.cell?_setCell_other _ _ _ _ (by simp)).trans h.x3, (World.cell?_setCell_other _ _ _ _ (by simp)).trans h.x4, by simpa using h.f1, by simpa using h.f2, by simpa using h.f3, by simpa using h.f4,
    (World.cell?_setCell_other _ _ _ _ (by simp)).trans h.r0, (World.cell?_setCell_other _ _ _ _ (by simp)).trans h.r1, (World.cell?_setCell_other _ _ _ _ (by simp)).trans h.r2, (World.cell?_setCell_other _ _ _ _ (by simp)).trans h.r3, (World.cell?_setCell_other _ _ _ _ (by simp)).trans h.r4, by simpa using h.z0, by simpa using h.z1, by simpa using h.z2, by simpa using h.z3, by simpa using h.z4, ho⟩
theorem Wk.setK (n : Int) : Wk w (W.setCell ⟨g1, 3, none⟩ (.int .i64 n)) r S p e g0 g1 { y with k := n } v := by
  obtain ⟨hr, hg, ho⟩ := h.rest 3 (.int .i64 n)
  obtain ⟨n1, n2, n3⟩ := h.nr
  exact ⟨hr, hg, h.lr, h.lo, h.lt, by simpa using h.hi, (World.cell?_setCell_other _ _ _ _ (by simp)).trans h.x0, (World.cell?_setCell_other _ _ _ _ (by simp)).trans h.x1, (World.cell?_setCell_other _ _ _ _ (by simp)).trans h.x2, World.cell?_setCell_same _ _ _ h.x3, (World.cell?_setCell_other _ _ _ _ (by simp)).trans h.x4, by simpa using h.f1, by simpa using h.f2, by simpa using h.f3, by simpa using h.f4,
    (World.cell?_setCell_other _ _ _ _ (by simp)).trans h.r0, (World.cell?_setCell_other _ _ _ _ (by simp)).trans h.r1, (World.cell?_setCell_other _ _ _ _ (by simp)).trans h.r2, (World.cell?_setCell_other _ _ _ _ (by simp)).trans h.r3, (World.cell?_setCell_other _ _ _ _ (by simp)).trans h.r4, by simpa using h.z0, by simpa using h.z1, by simpa using h.z2, by simpa using h.z3, by simpa using h.z4, ho⟩
theorem Wk.setL (v' : Value) (xs : List Int) (ho' : OwnI W (g1 + 1) v' xs) : Wk w (W.setCell ⟨g1, 4, none⟩ v') r S p e g0 g1 { y with l := xs } v' := by
  obtain ⟨hr, hg, _⟩ := h.rest 4 v'
  obtain ⟨n1, n2, n3⟩ := h.nr
  exact ⟨hr, hg, h.lr, h.lo, h.lt, by simpa using h.hi, (World.cell?_setCell_other _ _ _ _ (by simp)).trans h.x0, (World.cell?_setCell_other _ _ _ _ (by simp)).trans h.x1, (World.cell?_setCell_other _ _ _ _ (by simp)).trans h.x2, (World.cell?_setCell_other _ _ _ _ (by simp)).trans h.x3, World.cell?_setCell_same _ _ _ h.x4, by simpa using h.f1, by simpa using h.f2, by simpa using h.f3, by simpa using h.f4,
    (World.cell?_setCell_other _ _ _ _ (by simp)).trans h.r0, (World.cell?_setCell_other _ _ _ _ (by simp)).trans h.r1, (World.cell?_setCell_other _ _ _ _ (by simp)).trans h.r2, (World.cell?_setCell_other _ _ _ _ (by simp)).trans h.r3, (World.cell?_setCell_other _ _ _ _ (by simp)).trans h.r4, by simpa using h.z0, by simpa using h.z1, by simpa using h.z2, by simpa using h.z3, by simpa using h.z4, ownI_set ho' (by omega)⟩
end
/-- The end: the result's cells are written. -/
structure En (w W : World) (r : Nat) (S : Value) (p e g0 : Nat) (v : Value) (l : List Int) : Prop where
  rd : Rd W r S p e
  grown : w.grownBy W (some r)
  lr : r < w.heap.size
  lo : w.heap.size ≤ g0
  own : OwnI W (g0 + 1) v l
theorem Wk.en {w W : World} {r p e g0 g1 : Nat} {S v : Value} {y : Ins} (h : Wk w W r S p e g0 g1 y v) : En w W r S p e g0 v y.l := ⟨h.rd, h.grown, h.lr, h.lo, ownI_lo h.own (by have := h.lt; omega)⟩
theorem En.set {w W : World} {r p e g0 : Nat} {S v : Value} {l : List Int} (h : En w W r S p e g0 v l) (i : Nat) (u : Value) : En w (W.setCell ⟨g0, i, none⟩ u) r S p e g0 v l := by
  have hlr := h.lr; have hlo := h.lo
  exact ⟨h.rd.step (by simp) (Below.heap_setCell _ _ _ _ (by simp; omega)), ⟨h.grown.os, h.grown.tape, h.grown.output, by simpa using h.grown.size, fun k hk hne => (Below.heap_setCell _ _ _ _ (by simp; omega)).trans (h.grown.block k hk hne)⟩, hlr, hlo, ownI_set h.own (by omega)⟩
theorem wk_of {w w1 : World} {r p e : Nat} {S : Value} (op : Int) (t t' : TypeId) (hlr : r < w.heap.size) (hr : Rd w1 r S p e) (hg : (w.alloc (.cells #[.int .i64 0, .int .i64 0, .int .i64 0, .int .i64 0, .slice none 0 0] t)).grownBy w1 (some r)) :
    Wk w (w1.alloc (.cells #[.int .i64 op, .int .i64 0, .int .i64 0, .int .i64 0, .slice none 0 0] t')) r S p e w.heap.size w1.heap.size { zeroIns with op := op } (.slice none 0 0) := by
  have hr0 := (MapKept.heap_alloc w (.cells #[.int .i64 0, .int .i64 0, .int .i64 0, .int .i64 0, .slice none 0 0] t)).1
  have hr1 := (MapKept.heap_alloc w1 (.cells #[.int .i64 op, .int .i64 0, .int .i64 0, .int .i64 0, .slice none 0 0] t')).1
  have hsz : w.heap.size + 1 ≤ w1.heap.size := by have := hg.size; simpa using this
  have hb1 : Below w1.heap.size w1 (w1.alloc (.cells #[.int .i64 op, .int .i64 0, .int .i64 0, .int .i64 0, .slice none 0 0] t')) := (Below.refl _ _).alloc (Nat.le_refl _) _
  have hbl := (hb1.block w.heap.size (by omega)).trans (hg.block w.heap.size (by simp) (by simp; omega))
  have C0 : ∀ i, (w1.alloc (.cells #[.int .i64 op, .int .i64 0, .int .i64 0, .int .i64 0, .slice none 0 0] t')).cell? ⟨w.heap.size, i, none⟩ = (w.alloc (.cells #[.int .i64 0, .int .i64 0, .int .i64 0, .int .i64 0, .slice none 0 0] t)).cell? ⟨w.heap.size, i, none⟩ := fun i => World.cell?_of_block hbl
  have F0 : ∀ i, (w1.alloc (.cells #[.int .i64 op, .int .i64 0, .int .i64 0, .int .i64 0, .slice none 0 0] t')).frozen? ⟨w.heap.size, i, none⟩ = (w.alloc (.cells #[.int .i64 0, .int .i64 0, .int .i64 0, .int .i64 0, .slice none 0 0] t)).frozen? ⟨w.heap.size, i, none⟩ := fun i => World.frozen?_of_block hbl
  refine ⟨hr.keep hb1, by_trans (by_trans (by_below ((Below.refl _ _).alloc (Nat.le_refl _) _) _) hg) (by_below hb1 _), hlr, Nat.le_refl _, by omega, by simp, ?_, ?_, ?_, ?_, ?_, ?_, ?_, ?_, ?_, (C0 _).trans ?_, (C0 _).trans ?_, (C0 _).trans ?_, (C0 _).trans ?_, (C0 _).trans ?_, (F0 _).trans ?_, (F0 _).trans ?_, (F0 _).trans ?_, (F0 _).trans ?_, (F0 _).trans ?_, OwnI.nil _ _⟩
  all_goals first
    | (simp only [World.cell?, hr1]; rfl)
    | (simp only [World.frozen?, hr1]; rfl)
    | (simp only [World.cell?, hr0]; rfl)
    | (simp only [World.frozen?, hr0]; rfl)
/-- What instr leaves. -/
def InsIs (w : World) (r : Nat) (S : Value) (y : Ins) (p e : Nat) (en : Ending) (w' : World) : Prop :=
  ∃ v, en = .returned (.agg #[.int .i64 y.op, .int .i64 y.a, .int .i64 y.b, .int .i64 y.k, v]) ∧ OwnI w' w.heap.size v y.l ∧ Rd w' r S p e ∧ w.grownBy w' (some r)
section
variable (w : World) (r : Nat) (S : Value) (op : Int) (p0 e0 p1 e1 p2 e2 : Nat) (H : Hid (Rd w r S 0 0))
  (HC : Hid (∀ W, Rd W r S 0 0 → w.grownBy W (some r) → Calls Try.prog 56 #[.pointer (some ⟨r, 0, none⟩)] W (RdIs W r S p0 e0 (.int .i64 op))))
include H HC
set_option maxHeartbeats 4000000 in
set_option maxRecDepth 100000 in
theorem ins_none (HF : Hid (∀ W, Calls Try.prog 30 #[.int .i64 op] W (FormIs W 0))) (H1 : Hid (∀ W, Rd W r S p0 e0 → w.grownBy W (some r) → Calls Try.prog 57 #[.pointer (some ⟨r, 0, none⟩), .int .i64 2] W (RdIs W r S p1 e1 (.tuple #[])))) :
    Calls Try.prog 40 #[.pointer (some ⟨r, 0, none⟩)] w (InsIs w r S ⟨op, 0, 0, 0, []⟩ p1 e1) := by
  have HL := Lib.hid H.out.lt
  have hb0 : Below w.heap.size w (w.alloc (.cells #[.int .i64 0, .int .i64 0, .int .i64 0, .int .i64 0, .slice none 0 0] 25)) := (Below.refl _ _).alloc (Nat.le_refl _) _
  have HR0 := Lib.hid (H.out.keep hb0)
  have HG0 := Lib.hid (by_below hb0 (some r))
  clear H hb0
  go_enter Try.func40, Try.ntmps40
  go_wp2_with fail
  refine (HC.out _ HR0.out HG0.out).mono ?_
  rintro en w1 ⟨rfl, hr1, hg1⟩
  have HW := Lib.hid (wk_of op _ 25 HL.out hr1 hg1)
  clear HC HR0 HG0 hr1 hg1
  go_wp2_with fail
  refine (HF.out _).mono ?_
  rintro en w2 ⟨rfl, hb2⟩
  have HW0 := Lib.hid (HW.out.keep hb2)
  clear HW hb2 HF
  generalize w1.heap.size = g1 at *
  simp only [zeroIns] at HW0
  go_wp2_with fail
  refine (H1.out _ HW0.out.rd HW0.out.grown).mono ?_
  rintro en w3 ⟨rfl, hr, hg⟩
  have hG := HW0.out.go hr hg
  have HW1 := Lib.hid hG
  have hN := hG.nr
  obtain ⟨_, _, _, _, _, _, x0, x1, x2, x3, x4, f1, f2, f3, f4, r0, r1, r2, r3, r4, z0, z1, z2, z3, z4, _⟩ := hG
  obtain ⟨n1, n2, n3⟩ := hN
  clear HW0 H1 hr hg
  go_wp2
  refine bodyPost_ret (v := .agg #[.int .i64 op, .int .i64 0, .int .i64 0, .int .i64 0, .slice none 0 0]) (by simp [results, Try.results40, go_sem, r0, r1, r2, r3, r4]) rfl ?_
  have hE := ((((HW1.out.en.set 0 (.int .i64 op)).set 1 (.int .i64 0)).set 2 (.int .i64 0)).set 3 (.int .i64 0)).set 4 (.slice none 0 0)
  exact ⟨_, rfl, ownI_lo hE.own (by have := hE.lo; omega), hE.rd, hE.grown⟩
set_option maxHeartbeats 4000000 in
set_option maxRecDepth 100000 in
theorem ins_wide (HF : Hid (∀ W, Calls Try.prog 30 #[.int .i64 op] W (FormIs W 1))) (H1 : Hid (∀ W, Rd W r S p0 e0 → w.grownBy W (some r) → Calls Try.prog 57 #[.pointer (some ⟨r, 0, none⟩), .int .i64 3] W (RdIs W r S p1 e1 (.tuple #[])))) :
    Calls Try.prog 40 #[.pointer (some ⟨r, 0, none⟩)] w (InsIs w r S ⟨op, 0, 0, 0, []⟩ p1 e1) := by
  have HL := Lib.hid H.out.lt
  have hb0 : Below w.heap.size w (w.alloc (.cells #[.int .i64 0, .int .i64 0, .int .i64 0, .int .i64 0, .slice none 0 0] 25)) := (Below.refl _ _).alloc (Nat.le_refl _) _
  have HR0 := Lib.hid (H.out.keep hb0)
  have HG0 := Lib.hid (by_below hb0 (some r))
  clear H hb0
  go_enter Try.func40, Try.ntmps40
  go_wp2_with fail
  refine (HC.out _ HR0.out HG0.out).mono ?_
  rintro en w1 ⟨rfl, hr1, hg1⟩
  have HW := Lib.hid (wk_of op _ 25 HL.out hr1 hg1)
  clear HC HR0 HG0 hr1 hg1
  go_wp2_with fail
  refine (HF.out _).mono ?_
  rintro en w2 ⟨rfl, hb2⟩
  have HW0 := Lib.hid (HW.out.keep hb2)
  clear HW hb2 HF
  generalize w1.heap.size = g1 at *
  simp only [zeroIns] at HW0
  go_wp2_with fail
  refine (H1.out _ HW0.out.rd HW0.out.grown).mono ?_
  rintro en w3 ⟨rfl, hr, hg⟩
  have hG := HW0.out.go hr hg
  have HW1 := Lib.hid hG
  have hN := hG.nr
  obtain ⟨_, _, _, _, _, _, x0, x1, x2, x3, x4, f1, f2, f3, f4, r0, r1, r2, r3, r4, z0, z1, z2, z3, z4, _⟩ := hG
  obtain ⟨n1, n2, n3⟩ := hN
  clear HW0 H1 hr hg
  go_wp2
  refine bodyPost_ret (v := .agg #[.int .i64 op, .int .i64 0, .int .i64 0, .int .i64 0, .slice none 0 0]) (by simp [results, Try.results40, go_sem, r0, r1, r2, r3, r4]) rfl ?_
  have hE := ((((HW1.out.en.set 0 (.int .i64 op)).set 1 (.int .i64 0)).set 2 (.int .i64 0)).set 3 (.int .i64 0)).set 4 (.slice none 0 0)
  exact ⟨_, rfl, ownI_lo hE.own (by have := hE.lo; omega), hE.rd, hE.grown⟩
set_option maxHeartbeats 4000000 in
set_option maxRecDepth 100000 in
theorem ins_bare (HF : Hid (∀ W, Calls Try.prog 30 #[.int .i64 op] W (FormIs W 2)))  :
    Calls Try.prog 40 #[.pointer (some ⟨r, 0, none⟩)] w (InsIs w r S ⟨op, 0, 0, 0, []⟩ p0 e0) := by
  have HL := Lib.hid H.out.lt
  have hb0 : Below w.heap.size w (w.alloc (.cells #[.int .i64 0, .int .i64 0, .int .i64 0, .int .i64 0, .slice none 0 0] 25)) := (Below.refl _ _).alloc (Nat.le_refl _) _
  have HR0 := Lib.hid (H.out.keep hb0)
  have HG0 := Lib.hid (by_below hb0 (some r))
  clear H hb0
  go_enter Try.func40, Try.ntmps40
  go_wp2_with fail
  refine (HC.out _ HR0.out HG0.out).mono ?_
  rintro en w1 ⟨rfl, hr1, hg1⟩
  have HW := Lib.hid (wk_of op _ 25 HL.out hr1 hg1)
  clear HC HR0 HG0 hr1 hg1
  go_wp2_with fail
  refine (HF.out _).mono ?_
  rintro en w2 ⟨rfl, hb2⟩
  have HW0 := Lib.hid (HW.out.keep hb2)
  clear HW hb2 HF
  generalize w1.heap.size = g1 at *
  simp only [zeroIns] at HW0
  have hN := HW0.out.nr
  obtain ⟨_, _, _, _, _, _, x0, x1, x2, x3, x4, f1, f2, f3, f4, r0, r1, r2, r3, r4, z0, z1, z2, z3, z4, _⟩ := HW0.out
  obtain ⟨n1, n2, n3⟩ := hN
  go_wp2
  refine bodyPost_ret (v := .agg #[.int .i64 op, .int .i64 0, .int .i64 0, .int .i64 0, .slice none 0 0]) (by simp [results, Try.results40, go_sem, r0, r1, r2, r3, r4]) rfl ?_
  have hE := ((((HW0.out.en.set 0 (.int .i64 op)).set 1 (.int .i64 0)).set 2 (.int .i64 0)).set 3 (.int .i64 0)).set 4 (.slice none 0 0)
  exact ⟨_, rfl, ownI_lo hE.own (by have := hE.lo; omega), hE.rd, hE.grown⟩
set_option maxHeartbeats 4000000 in
set_option maxRecDepth 100000 in
theorem ins_t (HF : Hid (∀ W, Calls Try.prog 30 #[.int .i64 op] W (FormIs W 3))) (va : Int) (H1 : Hid (∀ W, Rd W r S p0 e0 → w.grownBy W (some r) → Calls Try.prog 58 #[.pointer (some ⟨r, 0, none⟩)] W (RdIs W r S p1 e1 (.int .i64 va)))) :
    Calls Try.prog 40 #[.pointer (some ⟨r, 0, none⟩)] w (InsIs w r S ⟨op, va, 0, 0, []⟩ p1 e1) := by
  have HL := Lib.hid H.out.lt
  have hb0 : Below w.heap.size w (w.alloc (.cells #[.int .i64 0, .int .i64 0, .int .i64 0, .int .i64 0, .slice none 0 0] 25)) := (Below.refl _ _).alloc (Nat.le_refl _) _
  have HR0 := Lib.hid (H.out.keep hb0)
  have HG0 := Lib.hid (by_below hb0 (some r))
  clear H hb0
  go_enter Try.func40, Try.ntmps40
  go_wp2_with fail
  refine (HC.out _ HR0.out HG0.out).mono ?_
  rintro en w1 ⟨rfl, hr1, hg1⟩
  have HW := Lib.hid (wk_of op _ 25 HL.out hr1 hg1)
  clear HC HR0 HG0 hr1 hg1
  go_wp2_with fail
  refine (HF.out _).mono ?_
  rintro en w2 ⟨rfl, hb2⟩
  have HW0 := Lib.hid (HW.out.keep hb2)
  clear HW hb2 HF
  generalize w1.heap.size = g1 at *
  simp only [zeroIns] at HW0
  go_wp2_with fail
  refine (H1.out _ HW0.out.rd HW0.out.grown).mono ?_
  rintro en w3 ⟨rfl, hr, hg⟩
  have hG := HW0.out.go hr hg
  have HW1 := Lib.hid (hG.setA va)
  have hN := hG.nr
  obtain ⟨_, _, _, _, _, _, x0, x1, x2, x3, x4, f1, f2, f3, f4, r0, r1, r2, r3, r4, z0, z1, z2, z3, z4, _⟩ := hG
  obtain ⟨n1, n2, n3⟩ := hN
  clear HW0 H1 hr hg
  go_wp2
  refine bodyPost_ret (v := .agg #[.int .i64 op, .int .i64 va, .int .i64 0, .int .i64 0, .slice none 0 0]) (by simp [results, Try.results40, go_sem, r0, r1, r2, r3, r4]) rfl ?_
  have hE := ((((HW1.out.en.set 0 (.int .i64 op)).set 1 (.int .i64 va)).set 2 (.int .i64 0)).set 3 (.int .i64 0)).set 4 (.slice none 0 0)
  exact ⟨_, rfl, ownI_lo hE.own (by have := hE.lo; omega), hE.rd, hE.grown⟩
set_option maxHeartbeats 4000000 in
set_option maxRecDepth 100000 in
theorem ins_a (HF : Hid (∀ W, Calls Try.prog 30 #[.int .i64 op] W (FormIs W 4))) (va : Int) (H1 : Hid (∀ W, Rd W r S p0 e0 → w.grownBy W (some r) → Calls Try.prog 59 #[.pointer (some ⟨r, 0, none⟩)] W (RdIs W r S p1 e1 (.int .i64 va)))) :
    Calls Try.prog 40 #[.pointer (some ⟨r, 0, none⟩)] w (InsIs w r S ⟨op, va, 0, 0, []⟩ p1 e1) := by
  have HL := Lib.hid H.out.lt
  have hb0 : Below w.heap.size w (w.alloc (.cells #[.int .i64 0, .int .i64 0, .int .i64 0, .int .i64 0, .slice none 0 0] 25)) := (Below.refl _ _).alloc (Nat.le_refl _) _
  have HR0 := Lib.hid (H.out.keep hb0)
  have HG0 := Lib.hid (by_below hb0 (some r))
  clear H hb0
  go_enter Try.func40, Try.ntmps40
  go_wp2_with fail
  refine (HC.out _ HR0.out HG0.out).mono ?_
  rintro en w1 ⟨rfl, hr1, hg1⟩
  have HW := Lib.hid (wk_of op _ 25 HL.out hr1 hg1)
  clear HC HR0 HG0 hr1 hg1
  go_wp2_with fail
  refine (HF.out _).mono ?_
  rintro en w2 ⟨rfl, hb2⟩
  have HW0 := Lib.hid (HW.out.keep hb2)
  clear HW hb2 HF
  generalize w1.heap.size = g1 at *
  simp only [zeroIns] at HW0
  go_wp2_with fail
  refine (H1.out _ HW0.out.rd HW0.out.grown).mono ?_
  rintro en w3 ⟨rfl, hr, hg⟩
  have hG := HW0.out.go hr hg
  have HW1 := Lib.hid (hG.setA va)
  have hN := hG.nr
  obtain ⟨_, _, _, _, _, _, x0, x1, x2, x3, x4, f1, f2, f3, f4, r0, r1, r2, r3, r4, z0, z1, z2, z3, z4, _⟩ := hG
  obtain ⟨n1, n2, n3⟩ := hN
  clear HW0 H1 hr hg
  go_wp2
  refine bodyPost_ret (v := .agg #[.int .i64 op, .int .i64 va, .int .i64 0, .int .i64 0, .slice none 0 0]) (by simp [results, Try.results40, go_sem, r0, r1, r2, r3, r4]) rfl ?_
  have hE := ((((HW1.out.en.set 0 (.int .i64 op)).set 1 (.int .i64 va)).set 2 (.int .i64 0)).set 3 (.int .i64 0)).set 4 (.slice none 0 0)
  exact ⟨_, rfl, ownI_lo hE.own (by have := hE.lo; omega), hE.rd, hE.grown⟩
set_option maxHeartbeats 4000000 in
set_option maxRecDepth 100000 in
theorem ins_ab (HF : Hid (∀ W, Calls Try.prog 30 #[.int .i64 op] W (FormIs W 5))) (va : Int) (H1 : Hid (∀ W, Rd W r S p0 e0 → w.grownBy W (some r) → Calls Try.prog 59 #[.pointer (some ⟨r, 0, none⟩)] W (RdIs W r S p1 e1 (.int .i64 va)))) (vb : Int) (H2 : Hid (∀ W, Rd W r S p1 e1 → w.grownBy W (some r) → Calls Try.prog 59 #[.pointer (some ⟨r, 0, none⟩)] W (RdIs W r S p2 e2 (.int .i64 vb)))) :
    Calls Try.prog 40 #[.pointer (some ⟨r, 0, none⟩)] w (InsIs w r S ⟨op, va, vb, 0, []⟩ p2 e2) := by
  have HL := Lib.hid H.out.lt
  have hb0 : Below w.heap.size w (w.alloc (.cells #[.int .i64 0, .int .i64 0, .int .i64 0, .int .i64 0, .slice none 0 0] 25)) := (Below.refl _ _).alloc (Nat.le_refl _) _
  have HR0 := Lib.hid (H.out.keep hb0)
  have HG0 := Lib.hid (by_below hb0 (some r))
  clear H hb0
  go_enter Try.func40, Try.ntmps40
  go_wp2_with fail
  refine (HC.out _ HR0.out HG0.out).mono ?_
  rintro en w1 ⟨rfl, hr1, hg1⟩
  have HW := Lib.hid (wk_of op _ 25 HL.out hr1 hg1)
  clear HC HR0 HG0 hr1 hg1
  go_wp2_with fail
  refine (HF.out _).mono ?_
  rintro en w2 ⟨rfl, hb2⟩
  have HW0 := Lib.hid (HW.out.keep hb2)
  clear HW hb2 HF
  generalize w1.heap.size = g1 at *
  simp only [zeroIns] at HW0
  go_wp2_with fail
  refine (H1.out _ HW0.out.rd HW0.out.grown).mono ?_
  rintro en w3 ⟨rfl, hr, hg⟩
  have hG := HW0.out.go hr hg
  have HW1 := Lib.hid (hG.setA va)
  have hN := hG.nr
  obtain ⟨_, _, _, _, _, _, x0, x1, x2, x3, x4, f1, f2, f3, f4, r0, r1, r2, r3, r4, z0, z1, z2, z3, z4, _⟩ := hG
  obtain ⟨n1, n2, n3⟩ := hN
  clear HW0 H1 hr hg
  go_wp2_with fail
  clear x0 x1 x2 x3 x4 f1 f2 f3 f4 r0 r1 r2 r3 r4 z0 z1 z2 z3 z4
  refine (H2.out _ HW1.out.rd HW1.out.grown).mono ?_
  rintro en w4 ⟨rfl, hr, hg⟩
  have hG := HW1.out.go hr hg
  have HW2 := Lib.hid (hG.setB vb)
  have hN := hG.nr
  obtain ⟨_, _, _, _, _, _, x0, x1, x2, x3, x4, f1, f2, f3, f4, r0, r1, r2, r3, r4, z0, z1, z2, z3, z4, _⟩ := hG
  obtain ⟨n1, n2, n3⟩ := hN
  clear HW1 H2 hr hg
  go_wp2
  refine bodyPost_ret (v := .agg #[.int .i64 op, .int .i64 va, .int .i64 vb, .int .i64 0, .slice none 0 0]) (by simp [results, Try.results40, go_sem, r0, r1, r2, r3, r4]) rfl ?_
  have hE := ((((HW2.out.en.set 0 (.int .i64 op)).set 1 (.int .i64 va)).set 2 (.int .i64 vb)).set 3 (.int .i64 0)).set 4 (.slice none 0 0)
  exact ⟨_, rfl, ownI_lo hE.own (by have := hE.lo; omega), hE.rd, hE.grown⟩
set_option maxHeartbeats 4000000 in
set_option maxRecDepth 100000 in
theorem ins_la (HF : Hid (∀ W, Calls Try.prog 30 #[.int .i64 op] W (FormIs W 6))) (xs : List Int) (H1 : Hid (∀ W, Rd W r S p0 e0 → w.grownBy W (some r) → Calls Try.prog 60 #[.pointer (some ⟨r, 0, none⟩)] W (LabsAre W r S xs p1 e1))) (va : Int) (H2 : Hid (∀ W, Rd W r S p1 e1 → w.grownBy W (some r) → Calls Try.prog 59 #[.pointer (some ⟨r, 0, none⟩)] W (RdIs W r S p2 e2 (.int .i64 va)))) :
    Calls Try.prog 40 #[.pointer (some ⟨r, 0, none⟩)] w (InsIs w r S ⟨op, va, 0, 0, xs⟩ p2 e2) := by
  have HL := Lib.hid H.out.lt
  have hb0 : Below w.heap.size w (w.alloc (.cells #[.int .i64 0, .int .i64 0, .int .i64 0, .int .i64 0, .slice none 0 0] 25)) := (Below.refl _ _).alloc (Nat.le_refl _) _
  have HR0 := Lib.hid (H.out.keep hb0)
  have HG0 := Lib.hid (by_below hb0 (some r))
  clear H hb0
  go_enter Try.func40, Try.ntmps40
  go_wp2_with fail
  refine (HC.out _ HR0.out HG0.out).mono ?_
  rintro en w1 ⟨rfl, hr1, hg1⟩
  have HW := Lib.hid (wk_of op _ 25 HL.out hr1 hg1)
  clear HC HR0 HG0 hr1 hg1
  go_wp2_with fail
  refine (HF.out _).mono ?_
  rintro en w2 ⟨rfl, hb2⟩
  have HW0 := Lib.hid (HW.out.keep hb2)
  clear HW hb2 HF
  generalize w1.heap.size = g1 at *
  simp only [zeroIns] at HW0
  go_wp2_with fail
  refine (H1.out _ HW0.out.rd HW0.out.grown).mono ?_
  rintro en w3 ⟨v, rfl, ho, hr, hg⟩
  obtain ⟨LA, lc, rfl, _, _, _⟩ := ho.ints
  generalize hln : xs.length = ln at *
  have hG := HW0.out.go hr hg
  have hO : OwnI w3 (g1 + 1) (.slice LA ln lc) xs := ownI_lo ho (by have := HW0.out.hi; omega)
  have HW1 := Lib.hid (hG.setL _ xs hO)
  have hN := hG.nr
  obtain ⟨_, _, _, _, _, _, x0, x1, x2, x3, x4, f1, f2, f3, f4, r0, r1, r2, r3, r4, z0, z1, z2, z3, z4, _⟩ := hG
  obtain ⟨n1, n2, n3⟩ := hN
  clear HW0 H1 hr hg ho hO hln
  go_wp2_with fail
  clear x0 x1 x2 x3 x4 f1 f2 f3 f4 r0 r1 r2 r3 r4 z0 z1 z2 z3 z4
  refine (H2.out _ HW1.out.rd HW1.out.grown).mono ?_
  rintro en w4 ⟨rfl, hr, hg⟩
  have hG := HW1.out.go hr hg
  have HW2 := Lib.hid (hG.setA va)
  have hN := hG.nr
  obtain ⟨_, _, _, _, _, _, x0, x1, x2, x3, x4, f1, f2, f3, f4, r0, r1, r2, r3, r4, z0, z1, z2, z3, z4, _⟩ := hG
  obtain ⟨n1, n2, n3⟩ := hN
  clear HW1 H2 hr hg
  go_wp2
  refine bodyPost_ret (v := .agg #[.int .i64 op, .int .i64 va, .int .i64 0, .int .i64 0, .slice LA ln lc]) (by simp [results, Try.results40, go_sem, r0, r1, r2, r3, r4]) rfl ?_
  have hE := ((((HW2.out.en.set 0 (.int .i64 op)).set 1 (.int .i64 va)).set 2 (.int .i64 0)).set 3 (.int .i64 0)).set 4 (.slice LA ln lc)
  exact ⟨_, rfl, ownI_lo hE.own (by have := hE.lo; omega), hE.rd, hE.grown⟩
set_option maxHeartbeats 4000000 in
set_option maxRecDepth 100000 in
theorem ins_z (HF : Hid (∀ W, Calls Try.prog 30 #[.int .i64 op] W (FormIs W 7))) (H1 : Hid (∀ W, Rd W r S p0 e0 → w.grownBy W (some r) → Calls Try.prog 61 #[.pointer (some ⟨r, 0, none⟩)] W (RdIs W r S p1 e1 (.tuple #[])))) :
    Calls Try.prog 40 #[.pointer (some ⟨r, 0, none⟩)] w (InsIs w r S ⟨op, 0, 0, 0, []⟩ p1 e1) := by
  have HL := Lib.hid H.out.lt
  have hb0 : Below w.heap.size w (w.alloc (.cells #[.int .i64 0, .int .i64 0, .int .i64 0, .int .i64 0, .slice none 0 0] 25)) := (Below.refl _ _).alloc (Nat.le_refl _) _
  have HR0 := Lib.hid (H.out.keep hb0)
  have HG0 := Lib.hid (by_below hb0 (some r))
  clear H hb0
  go_enter Try.func40, Try.ntmps40
  go_wp2_with fail
  refine (HC.out _ HR0.out HG0.out).mono ?_
  rintro en w1 ⟨rfl, hr1, hg1⟩
  have HW := Lib.hid (wk_of op _ 25 HL.out hr1 hg1)
  clear HC HR0 HG0 hr1 hg1
  go_wp2_with fail
  refine (HF.out _).mono ?_
  rintro en w2 ⟨rfl, hb2⟩
  have HW0 := Lib.hid (HW.out.keep hb2)
  clear HW hb2 HF
  generalize w1.heap.size = g1 at *
  simp only [zeroIns] at HW0
  go_wp2_with fail
  refine (H1.out _ HW0.out.rd HW0.out.grown).mono ?_
  rintro en w3 ⟨rfl, hr, hg⟩
  have hG := HW0.out.go hr hg
  have HW1 := Lib.hid hG
  have hN := hG.nr
  obtain ⟨_, _, _, _, _, _, x0, x1, x2, x3, x4, f1, f2, f3, f4, r0, r1, r2, r3, r4, z0, z1, z2, z3, z4, _⟩ := hG
  obtain ⟨n1, n2, n3⟩ := hN
  clear HW0 H1 hr hg
  go_wp2
  refine bodyPost_ret (v := .agg #[.int .i64 op, .int .i64 0, .int .i64 0, .int .i64 0, .slice none 0 0]) (by simp [results, Try.results40, go_sem, r0, r1, r2, r3, r4]) rfl ?_
  have hE := ((((HW1.out.en.set 0 (.int .i64 op)).set 1 (.int .i64 0)).set 2 (.int .i64 0)).set 3 (.int .i64 0)).set 4 (.slice none 0 0)
  exact ⟨_, rfl, ownI_lo hE.own (by have := hE.lo; omega), hE.rd, hE.grown⟩
set_option maxHeartbeats 4000000 in
set_option maxRecDepth 100000 in
theorem ins_zz (HF : Hid (∀ W, Calls Try.prog 30 #[.int .i64 op] W (FormIs W 8))) (H1 : Hid (∀ W, Rd W r S p0 e0 → w.grownBy W (some r) → Calls Try.prog 61 #[.pointer (some ⟨r, 0, none⟩)] W (RdIs W r S p1 e1 (.tuple #[])))) (H2 : Hid (∀ W, Rd W r S p1 e1 → w.grownBy W (some r) → Calls Try.prog 61 #[.pointer (some ⟨r, 0, none⟩)] W (RdIs W r S p2 e2 (.tuple #[])))) :
    Calls Try.prog 40 #[.pointer (some ⟨r, 0, none⟩)] w (InsIs w r S ⟨op, 0, 0, 0, []⟩ p2 e2) := by
  have HL := Lib.hid H.out.lt
  have hb0 : Below w.heap.size w (w.alloc (.cells #[.int .i64 0, .int .i64 0, .int .i64 0, .int .i64 0, .slice none 0 0] 25)) := (Below.refl _ _).alloc (Nat.le_refl _) _
  have HR0 := Lib.hid (H.out.keep hb0)
  have HG0 := Lib.hid (by_below hb0 (some r))
  clear H hb0
  go_enter Try.func40, Try.ntmps40
  go_wp2_with fail
  refine (HC.out _ HR0.out HG0.out).mono ?_
  rintro en w1 ⟨rfl, hr1, hg1⟩
  have HW := Lib.hid (wk_of op _ 25 HL.out hr1 hg1)
  clear HC HR0 HG0 hr1 hg1
  go_wp2_with fail
  refine (HF.out _).mono ?_
  rintro en w2 ⟨rfl, hb2⟩
  have HW0 := Lib.hid (HW.out.keep hb2)
  clear HW hb2 HF
  generalize w1.heap.size = g1 at *
  simp only [zeroIns] at HW0
  go_wp2_with fail
  refine (H1.out _ HW0.out.rd HW0.out.grown).mono ?_
  rintro en w3 ⟨rfl, hr, hg⟩
  have hG := HW0.out.go hr hg
  have HW1 := Lib.hid hG
  have hN := hG.nr
  obtain ⟨_, _, _, _, _, _, x0, x1, x2, x3, x4, f1, f2, f3, f4, r0, r1, r2, r3, r4, z0, z1, z2, z3, z4, _⟩ := hG
  obtain ⟨n1, n2, n3⟩ := hN
  clear HW0 H1 hr hg
  go_wp2_with fail
  clear x0 x1 x2 x3 x4 f1 f2 f3 f4 r0 r1 r2 r3 r4 z0 z1 z2 z3 z4
  refine (H2.out _ HW1.out.rd HW1.out.grown).mono ?_
  rintro en w4 ⟨rfl, hr, hg⟩
  have hG := HW1.out.go hr hg
  have HW2 := Lib.hid hG
  have hN := hG.nr
  obtain ⟨_, _, _, _, _, _, x0, x1, x2, x3, x4, f1, f2, f3, f4, r0, r1, r2, r3, r4, z0, z1, z2, z3, z4, _⟩ := hG
  obtain ⟨n1, n2, n3⟩ := hN
  clear HW1 H2 hr hg
  go_wp2
  refine bodyPost_ret (v := .agg #[.int .i64 op, .int .i64 0, .int .i64 0, .int .i64 0, .slice none 0 0]) (by simp [results, Try.results40, go_sem, r0, r1, r2, r3, r4]) rfl ?_
  have hE := ((((HW2.out.en.set 0 (.int .i64 op)).set 1 (.int .i64 0)).set 2 (.int .i64 0)).set 3 (.int .i64 0)).set 4 (.slice none 0 0)
  exact ⟨_, rfl, ownI_lo hE.own (by have := hE.lo; omega), hE.rd, hE.grown⟩
set_option maxHeartbeats 4000000 in
set_option maxRecDepth 100000 in
theorem ins_az (HF : Hid (∀ W, Calls Try.prog 30 #[.int .i64 op] W (FormIs W 9))) (va : Int) (H1 : Hid (∀ W, Rd W r S p0 e0 → w.grownBy W (some r) → Calls Try.prog 59 #[.pointer (some ⟨r, 0, none⟩)] W (RdIs W r S p1 e1 (.int .i64 va)))) (H2 : Hid (∀ W, Rd W r S p1 e1 → w.grownBy W (some r) → Calls Try.prog 61 #[.pointer (some ⟨r, 0, none⟩)] W (RdIs W r S p2 e2 (.tuple #[])))) :
    Calls Try.prog 40 #[.pointer (some ⟨r, 0, none⟩)] w (InsIs w r S ⟨op, va, 0, 0, []⟩ p2 e2) := by
  have HL := Lib.hid H.out.lt
  have hb0 : Below w.heap.size w (w.alloc (.cells #[.int .i64 0, .int .i64 0, .int .i64 0, .int .i64 0, .slice none 0 0] 25)) := (Below.refl _ _).alloc (Nat.le_refl _) _
  have HR0 := Lib.hid (H.out.keep hb0)
  have HG0 := Lib.hid (by_below hb0 (some r))
  clear H hb0
  go_enter Try.func40, Try.ntmps40
  go_wp2_with fail
  refine (HC.out _ HR0.out HG0.out).mono ?_
  rintro en w1 ⟨rfl, hr1, hg1⟩
  have HW := Lib.hid (wk_of op _ 25 HL.out hr1 hg1)
  clear HC HR0 HG0 hr1 hg1
  go_wp2_with fail
  refine (HF.out _).mono ?_
  rintro en w2 ⟨rfl, hb2⟩
  have HW0 := Lib.hid (HW.out.keep hb2)
  clear HW hb2 HF
  generalize w1.heap.size = g1 at *
  simp only [zeroIns] at HW0
  go_wp2_with fail
  refine (H1.out _ HW0.out.rd HW0.out.grown).mono ?_
  rintro en w3 ⟨rfl, hr, hg⟩
  have hG := HW0.out.go hr hg
  have HW1 := Lib.hid (hG.setA va)
  have hN := hG.nr
  obtain ⟨_, _, _, _, _, _, x0, x1, x2, x3, x4, f1, f2, f3, f4, r0, r1, r2, r3, r4, z0, z1, z2, z3, z4, _⟩ := hG
  obtain ⟨n1, n2, n3⟩ := hN
  clear HW0 H1 hr hg
  go_wp2_with fail
  clear x0 x1 x2 x3 x4 f1 f2 f3 f4 r0 r1 r2 r3 r4 z0 z1 z2 z3 z4
  refine (H2.out _ HW1.out.rd HW1.out.grown).mono ?_
  rintro en w4 ⟨rfl, hr, hg⟩
  have hG := HW1.out.go hr hg
  have HW2 := Lib.hid hG
  have hN := hG.nr
  obtain ⟨_, _, _, _, _, _, x0, x1, x2, x3, x4, f1, f2, f3, f4, r0, r1, r2, r3, r4, z0, z1, z2, z3, z4, _⟩ := hG
  obtain ⟨n1, n2, n3⟩ := hN
  clear HW1 H2 hr hg
  go_wp2
  refine bodyPost_ret (v := .agg #[.int .i64 op, .int .i64 va, .int .i64 0, .int .i64 0, .slice none 0 0]) (by simp [results, Try.results40, go_sem, r0, r1, r2, r3, r4]) rfl ?_
  have hE := ((((HW2.out.en.set 0 (.int .i64 op)).set 1 (.int .i64 va)).set 2 (.int .i64 0)).set 3 (.int .i64 0)).set 4 (.slice none 0 0)
  exact ⟨_, rfl, ownI_lo hE.own (by have := hE.lo; omega), hE.rd, hE.grown⟩
set_option maxHeartbeats 4000000 in
set_option maxRecDepth 100000 in
theorem ins_k (HF : Hid (∀ W, Calls Try.prog 30 #[.int .i64 op] W (FormIs W 10))) (vk : Int) (H1 : Hid (∀ W, Rd W r S p0 e0 → w.grownBy W (some r) → Calls Try.prog 62 #[.pointer (some ⟨r, 0, none⟩), .int .i64 32] W (RdIs W r S p1 e1 (.int .i64 vk)))) :
    Calls Try.prog 40 #[.pointer (some ⟨r, 0, none⟩)] w (InsIs w r S ⟨op, 0, 0, vk, []⟩ p1 e1) := by
  have HL := Lib.hid H.out.lt
  have hb0 : Below w.heap.size w (w.alloc (.cells #[.int .i64 0, .int .i64 0, .int .i64 0, .int .i64 0, .slice none 0 0] 25)) := (Below.refl _ _).alloc (Nat.le_refl _) _
  have HR0 := Lib.hid (H.out.keep hb0)
  have HG0 := Lib.hid (by_below hb0 (some r))
  clear H hb0
  go_enter Try.func40, Try.ntmps40
  go_wp2_with fail
  refine (HC.out _ HR0.out HG0.out).mono ?_
  rintro en w1 ⟨rfl, hr1, hg1⟩
  have HW := Lib.hid (wk_of op _ 25 HL.out hr1 hg1)
  clear HC HR0 HG0 hr1 hg1
  go_wp2_with fail
  refine (HF.out _).mono ?_
  rintro en w2 ⟨rfl, hb2⟩
  have HW0 := Lib.hid (HW.out.keep hb2)
  clear HW hb2 HF
  generalize w1.heap.size = g1 at *
  simp only [zeroIns] at HW0
  go_wp2_with fail
  refine (H1.out _ HW0.out.rd HW0.out.grown).mono ?_
  rintro en w3 ⟨rfl, hr, hg⟩
  have hG := HW0.out.go hr hg
  have HW1 := Lib.hid (hG.setK vk)
  have hN := hG.nr
  obtain ⟨_, _, _, _, _, _, x0, x1, x2, x3, x4, f1, f2, f3, f4, r0, r1, r2, r3, r4, z0, z1, z2, z3, z4, _⟩ := hG
  obtain ⟨n1, n2, n3⟩ := hN
  clear HW0 H1 hr hg
  go_wp2
  refine bodyPost_ret (v := .agg #[.int .i64 op, .int .i64 0, .int .i64 0, .int .i64 vk, .slice none 0 0]) (by simp [results, Try.results40, go_sem, r0, r1, r2, r3, r4]) rfl ?_
  have hE := ((((HW1.out.en.set 0 (.int .i64 op)).set 1 (.int .i64 0)).set 2 (.int .i64 0)).set 3 (.int .i64 vk)).set 4 (.slice none 0 0)
  exact ⟨_, rfl, ownI_lo hE.own (by have := hE.lo; omega), hE.rd, hE.grown⟩
set_option maxHeartbeats 4000000 in
set_option maxRecDepth 100000 in
theorem ins_kk (HF : Hid (∀ W, Calls Try.prog 30 #[.int .i64 op] W (FormIs W 11))) (vk : Int) (H1 : Hid (∀ W, Rd W r S p0 e0 → w.grownBy W (some r) → Calls Try.prog 62 #[.pointer (some ⟨r, 0, none⟩), .int .i64 64] W (RdIs W r S p1 e1 (.int .i64 vk)))) :
    Calls Try.prog 40 #[.pointer (some ⟨r, 0, none⟩)] w (InsIs w r S ⟨op, 0, 0, vk, []⟩ p1 e1) := by
  have HL := Lib.hid H.out.lt
  have hb0 : Below w.heap.size w (w.alloc (.cells #[.int .i64 0, .int .i64 0, .int .i64 0, .int .i64 0, .slice none 0 0] 25)) := (Below.refl _ _).alloc (Nat.le_refl _) _
  have HR0 := Lib.hid (H.out.keep hb0)
  have HG0 := Lib.hid (by_below hb0 (some r))
  clear H hb0
  go_enter Try.func40, Try.ntmps40
  go_wp2_with fail
  refine (HC.out _ HR0.out HG0.out).mono ?_
  rintro en w1 ⟨rfl, hr1, hg1⟩
  have HW := Lib.hid (wk_of op _ 25 HL.out hr1 hg1)
  clear HC HR0 HG0 hr1 hg1
  go_wp2_with fail
  refine (HF.out _).mono ?_
  rintro en w2 ⟨rfl, hb2⟩
  have HW0 := Lib.hid (HW.out.keep hb2)
  clear HW hb2 HF
  generalize w1.heap.size = g1 at *
  simp only [zeroIns] at HW0
  go_wp2_with fail
  refine (H1.out _ HW0.out.rd HW0.out.grown).mono ?_
  rintro en w3 ⟨rfl, hr, hg⟩
  have hG := HW0.out.go hr hg
  have HW1 := Lib.hid (hG.setK vk)
  have hN := hG.nr
  obtain ⟨_, _, _, _, _, _, x0, x1, x2, x3, x4, f1, f2, f3, f4, r0, r1, r2, r3, r4, z0, z1, z2, z3, z4, _⟩ := hG
  obtain ⟨n1, n2, n3⟩ := hN
  clear HW0 H1 hr hg
  go_wp2
  refine bodyPost_ret (v := .agg #[.int .i64 op, .int .i64 0, .int .i64 0, .int .i64 vk, .slice none 0 0]) (by simp [results, Try.results40, go_sem, r0, r1, r2, r3, r4]) rfl ?_
  have hE := ((((HW1.out.en.set 0 (.int .i64 op)).set 1 (.int .i64 0)).set 2 (.int .i64 0)).set 3 (.int .i64 vk)).set 4 (.slice none 0 0)
  exact ⟨_, rfl, ownI_lo hE.own (by have := hE.lo; omega), hE.rd, hE.grown⟩
end
end Go.Proofs.Ytdipgokbfjbgfaa.Ins
