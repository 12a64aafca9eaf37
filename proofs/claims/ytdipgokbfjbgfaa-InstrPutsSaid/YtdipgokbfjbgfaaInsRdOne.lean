/-
  InsRdOne: instr's reader.instr at any code; instr.One: what it answers is oneRes. Condition: the slice leads to bytes, at most 10,000,000.
-/
import Derived.Test.YtdipgokbfjbgfaaInsRdIns
namespace Go.Proofs.Ytdipgokbfjbgfaa.Ins
open Go.RowKit Leb Typ

theorem ins_any {w : World} {r : Nat} {A : Option Addr} {c : Nat} {l : List Nat} (H : Rd w r (.slice A l.length c) 0 0) (hb : RdB w r A c l) :
    Calls Try.prog 40 #[.pointer (some ⟨r, 0, none⟩)] w (InsIs w r (.slice A l.length c) (instrRes l).1 (instrRes l).2.1 (instrRes l).2.2) := by
  have HH := Lib.hid H
  have HC := Lib.hid (fun W (hW : Rd W r (.slice A l.length c) 0 0) (hg : w.grownBy W (some r)) => code_any hW (hb.keep H.lt hg))
  have HF := Lib.hid (fun W => form_any (codeRes l).1 W)
  have hz := (codeRes_sz l).1
  have N := fun W p e (hW : Rd W r (.slice A l.length c) p e) (hg : w.grownBy W (some r)) (hp : p ≤ l.length) => number_any hW (hb.keep H.lt hg) hp
  have Z := fun W p e (hW : Rd W r (.slice A l.length c) p e) (hg : w.grownBy W (some r)) (hp : p ≤ l.length) => rzero_any hW (hb.keep H.lt hg) hp
  have usz : ∀ p, p ≤ l.length → p + (uRes (l.drop p) 32).2.1 ≤ l.length := fun p hp => by
    have := uRes_sz (l.drop p) 32
    have hd : (l.drop p).length = l.length - p := by simp
    omega
  have zsz : ∀ p e, p ≤ l.length → (zeroRes l p e).1 ≤ l.length := fun p e hp => by unfold zeroRes byteRes; split <;> (simp only; omega)
  unfold instrRes
  unfold formN at HF
  generalize (codeRes l).1 = op at *
  generalize (codeRes l).2.1 = p0 at *
  generalize (codeRes l).2.2 = e0 at *
  cases hp : pat op with
  | none =>
    rw [hp] at HF
    exact ins_none w r _ op p0 e0 _ _ HH HC HF (Lib.hid fun W hW _ => fail_any W r _ _ _ 2 hW)
  | some o =>
    cases o with
    | none =>
      rw [hp] at HF
      exact ins_wide w r _ op p0 e0 _ _ HH HC HF (Lib.hid fun W hW _ => fail_any W r _ _ _ 3 hW)
    | some qs =>
      rw [hp] at HF
      have hm := pat_mem op qs hp
      simp only [List.mem_cons, List.not_mem_nil, or_false] at hm
      rcases hm with rfl | rfl | rfl | rfl | rfl | rfl | rfl | rfl | rfl | rfl
      · exact ins_bare w r _ op p0 e0 HH HC HF
      · exact ins_t w r _ op p0 e0 _ _ HH HC HF _ (Lib.hid fun W hW hg => block_any hW (hb.keep H.lt hg) hz)
      · exact ins_a w r _ op p0 e0 _ _ HH HC HF _ (Lib.hid fun W hW hg => N W _ _ hW hg hz)
      · exact ins_la w r _ op p0 e0 _ _ _ _ HH HC HF _ (Lib.hid fun W hW hg => labels_any hW (hb.keep H.lt hg) hz) _ (Lib.hid fun W hW hg => N W _ _ hW hg (labsRes_sz l _ _ hz))
      · exact ins_ab w r _ op p0 e0 _ _ _ _ HH HC HF _ (Lib.hid fun W hW hg => N W _ _ hW hg hz) _ (Lib.hid fun W hW hg => N W _ _ hW hg (usz _ hz))
      · exact ins_z w r _ op p0 e0 _ _ HH HC HF (Lib.hid fun W hW hg => Z W _ _ hW hg hz)
      · exact ins_zz w r _ op p0 e0 _ _ _ _ HH HC HF (Lib.hid fun W hW hg => Z W _ _ hW hg hz) (Lib.hid fun W hW hg => Z W _ _ hW hg (zsz _ _ hz))
      · exact ins_k w r _ op p0 e0 _ _ HH HC HF _ (Lib.hid fun W hW hg => signed_any (bits := 32) (by omega) (by omega) hW (hb.keep H.lt hg) hz)
      · exact ins_kk w r _ op p0 e0 _ _ HH HC HF _ (Lib.hid fun W hW hg => signed_any (bits := 64) (by omega) (by omega) hW (hb.keep H.lt hg) hz)
      · exact ins_az w r _ op p0 e0 _ _ _ _ HH HC HF _ (Lib.hid fun W hW hg => N W _ _ hW hg hz) (Lib.hid fun W hW hg => Z W _ _ hW hg (usz _ hz))
/-- The result's box, laid and not written since. -/
structure ORes (w W : World) : Prop where
  below : Below w.heap.size w W
  size : w.heap.size < W.heap.size
  r0 : W.cell? ⟨w.heap.size, 0, none⟩ = some (.int .i64 0)
  r1 : W.cell? ⟨w.heap.size, 1, none⟩ = some (.int .i64 0)
  r2 : W.cell? ⟨w.heap.size, 2, none⟩ = some (.int .i64 0)
  r3 : W.cell? ⟨w.heap.size, 3, none⟩ = some (.int .i64 0)
  r4 : W.cell? ⟨w.heap.size, 4, none⟩ = some (.slice none 0 0)
  z0 : W.frozen? ⟨w.heap.size, 0, none⟩ = false
  z1 : W.frozen? ⟨w.heap.size, 1, none⟩ = false
  z2 : W.frozen? ⟨w.heap.size, 2, none⟩ = false
  z3 : W.frozen? ⟨w.heap.size, 3, none⟩ = false
  z4 : W.frozen? ⟨w.heap.size, 4, none⟩ = false
theorem ores_of (w : World) (t : TypeId) : ORes w (w.alloc (.cells #[.int .i64 0, .int .i64 0, .int .i64 0, .int .i64 0, .slice none 0 0] t)) := by
  have hr := (MapKept.heap_alloc w (.cells #[.int .i64 0, .int .i64 0, .int .i64 0, .int .i64 0, .slice none 0 0] t)).1
  refine ⟨(Below.refl _ _).alloc (Nat.le_refl _) _, by simp, ?_, ?_, ?_, ?_, ?_, ?_, ?_, ?_, ?_, ?_⟩
  all_goals first
    | (simp only [World.cell?, hr]; rfl)
    | (simp only [World.frozen?, hr]; rfl)
theorem ORes.step {w W W' : World} (h : ORes w W) (hb : Below w.heap.size w W') (hs : W.heap.size ≤ W'.heap.size) (hh : W'.heap[w.heap.size]? = W.heap[w.heap.size]?) : ORes w W' := by
  have C : ∀ i, W'.cell? ⟨w.heap.size, i, none⟩ = W.cell? ⟨w.heap.size, i, none⟩ := fun i => World.cell?_of_block hh
  have F : ∀ i, W'.frozen? ⟨w.heap.size, i, none⟩ = W.frozen? ⟨w.heap.size, i, none⟩ := fun i => World.frozen?_of_block hh
  exact ⟨hb, Nat.lt_of_lt_of_le h.size hs, (C _).trans h.r0, (C _).trans h.r1, (C _).trans h.r2, (C _).trans h.r3, (C _).trans h.r4, (F _).trans h.z0, (F _).trans h.z1, (F _).trans h.z2, (F _).trans h.z3, (F _).trans h.z4⟩
theorem ORes.keep {w W W' : World} (h : ORes w W) (h' : Below W.heap.size W W') : ORes w W' := h.step (h.below.trans (h'.mono h.below.size)) h'.size (h'.block _ h.size)
theorem ORes.by {w W W' : World} {r : Nat} (h : ORes w W) (hg : W.grownBy W' (some r)) (hr : w.heap.size < r) : ORes w W' :=
  h.step (h.below.grown hg h.below.size (fun k hk => by
    have : r = k := by simpa using hk
    omega)) hg.size (hg.block _ h.size (by simp; omega))
theorem reader_of (w : World) (A : Option Addr) (n c : Nat) (t : TypeId) : Rd (w.alloc (.cells #[.slice A n c, .int .i64 0, .int .i64 0] t)) w.heap.size (.slice A n c) 0 0 := by
  have hr := (MapKept.heap_alloc w (.cells #[.slice A n c, .int .i64 0, .int .i64 0] t)).1
  refine ⟨by simp, ?_, ?_, ?_, ?_, ?_⟩
  all_goals first
    | (simp only [World.cell?, hr]; rfl)
    | (simp only [World.frozen?, hr]; rfl)
theorem zero_i (w : World) : InsV w (.agg #[.int .i64 0, .int .i64 0, .int .i64 0, .int .i64 0, .slice none 0 0]) zeroIns := ⟨none, 0, rfl, Ints.nil _ _ _, Nat.le_refl _, fun _ => rfl⟩
theorem insV_of {W : World} {b : Nat} {LA : Option Addr} {ln lc : Nat} {y : Ins} (h : OwnI W b (.slice LA ln lc) y.l) : InsV W (.agg #[.int .i64 y.op, .int .i64 y.a, .int .i64 y.b, .int .i64 y.k, .slice LA ln lc]) y := by
  obtain ⟨A, cap, he, hi, hl, hn⟩ := h.ints
  simp only [Value.slice.injEq] at he
  obtain ⟨rfl, rfl, rfl⟩ := he
  exact ⟨_, _, rfl, hi, hl, hn⟩
/-- What One answers: the labels are its own. -/
def OneO (w : World) (r : Ins × Nat × Nat) (e : Ending) (w' : World) : Prop :=
  ∃ A c ln, ln = r.1.l.length ∧ e = .returned (.tuple #[.agg #[.int .i64 r.1.op, .int .i64 r.1.a, .int .i64 r.1.b, .int .i64 r.1.k, .slice A ln c], .int .i64 (r.2.1 : Int), .int .i64 (r.2.2 : Int)]) ∧ OwnI w' w.heap.size (.slice A ln c) r.1.l ∧ Below w.heap.size w w'
theorem OneO.three {w w' : World} {r : Ins × Nat × Nat} {e : Ending} (h : OneO w r e w') : One3 w r e w' := by
  obtain ⟨A, c, ln, rfl, rfl, ho, hb⟩ := h
  exact ⟨_, rfl, insV_of ho, hb⟩
/-- Ahead of the reader's work: both boxes are laid. -/
theorem two_of (w : World) (A : Option Addr) (len c : Nat) (t t' : TypeId) :
    ORes w ((w.alloc (.cells #[.int .i64 0, .int .i64 0, .int .i64 0, .int .i64 0, .slice none 0 0] t)).alloc (.cells #[.slice A len c, .int .i64 0, .int .i64 0] t')) ∧ Rd ((w.alloc (.cells #[.int .i64 0, .int .i64 0, .int .i64 0, .int .i64 0, .slice none 0 0] t)).alloc (.cells #[.slice A len c, .int .i64 0, .int .i64 0] t')) (w.heap.size + 1) (.slice A len c) 0 0 := by
  have e : (w.alloc (.cells #[.int .i64 0, .int .i64 0, .int .i64 0, .int .i64 0, .slice none 0 0] t)).heap.size = w.heap.size + 1 := by simp
  have h := reader_of (w.alloc (.cells #[.int .i64 0, .int .i64 0, .int .i64 0, .int .i64 0, .slice none 0 0] t)) A len c t'
  rw [e] at h
  exact ⟨(ores_of w t).keep ((Below.refl _ _).alloc (Nat.le_refl _) _), h⟩
/-- Behind it: what it read lies in a box. -/
structure Fin (w W : World) (g : Nat) (y : Ins) (v : Value) (p e : Nat) : Prop where
  res : ORes w W
  x0 : W.cell? ⟨g, 0, none⟩ = some (.int .i64 y.op)
  x1 : W.cell? ⟨g, 1, none⟩ = some (.int .i64 y.a)
  x2 : W.cell? ⟨g, 2, none⟩ = some (.int .i64 y.b)
  x3 : W.cell? ⟨g, 3, none⟩ = some (.int .i64 y.k)
  x4 : W.cell? ⟨g, 4, none⟩ = some v
  c1 : W.cell? ⟨w.heap.size + 1, 1, none⟩ = some (.int .i64 (p : Int))
  c2 : W.cell? ⟨w.heap.size + 1, 2, none⟩ = some (.int .i64 (e : Int))
  own : OwnI W (w.heap.size + 1) v y.l
  ne : g ≠ w.heap.size
theorem fin_of {w W w1 : World} {S v : Value} {y : Ins} {p e : Nat} (t : TypeId) (h : ORes w W) (hs : W.heap.size = w.heap.size + 2) (ho : OwnI w1 W.heap.size v y.l) (hr : Rd w1 (w.heap.size + 1) S p e) (hg : W.grownBy w1 (some (w.heap.size + 1))) :
    Fin w (w1.alloc (.cells #[.int .i64 y.op, .int .i64 y.a, .int .i64 y.b, .int .i64 y.k, v] t)) w1.heap.size y v p e := by
  have hr1 := (MapKept.heap_alloc w1 (.cells #[.int .i64 y.op, .int .i64 y.a, .int .i64 y.b, .int .i64 y.k, v] t)).1
  have hb : Below w1.heap.size w1 (w1.alloc (.cells #[.int .i64 y.op, .int .i64 y.a, .int .i64 y.b, .int .i64 y.k, v] t)) := (Below.refl _ _).alloc (Nat.le_refl _) _
  have hk := hr.keep hb
  have hz := hg.size
  refine ⟨(h.by hg (by omega)).keep hb, ?_, ?_, ?_, ?_, ?_, hk.c1, hk.c2, ownI_lo (OwnI.keep ho hb ho.lt) (by omega), by omega⟩
  all_goals (simp only [World.cell?, hr1]; rfl)
section
variable (w : World) (A : Option Addr) (len c : Nat) (y : Ins) (p e : Nat)
  (HI : Hid (∀ W r, w.heap.size < r → r < W.heap.size → Below w.heap.size w W → Rd W r (.slice A len c) 0 0 → Calls Try.prog 40 #[.pointer (some ⟨r, 0, none⟩)] W (InsIs W r (.slice A len c) y p e)))
include HI
set_option maxHeartbeats 4000000 in
set_option maxRecDepth 100000 in
theorem one_err (he : ((e : Int) != 0) = true) : Calls Try.prog 22 #[.slice A len c] w (OneO w (zeroIns, 0, e)) := by
  obtain ⟨hO, hR⟩ := two_of w A len c 25 68
  have HR := Lib.hid hR
  have HO := Lib.hid hO
  have HB := Lib.hid hO.below
  clear hO hR
  go_enter Try.func22, Try.ntmps22
  go_wp2_with fail
  refine (HI.out _ _ (Nat.lt_succ_self _) (by simp) HB.out HR.out).mono ?_
  have hs : ((w.alloc (.cells #[.int .i64 0, .int .i64 0, .int .i64 0, .int .i64 0, .slice none 0 0] 25)).alloc (.cells #[.slice A len c, .int .i64 0, .int .i64 0] 68)).heap.size = w.heap.size + 2 := by simp
  have HS := Lib.hid hs
  clear hs HI HB HR
  generalize (w.alloc _).alloc _ = W at *
  rintro en w1 ⟨v, rfl, ho, hr, hg⟩
  obtain ⟨LA, lc, rfl, _, _, _⟩ := ho.ints
  generalize hln : y.l.length = ln at *
  have HLN := Lib.hid hln.symm
  clear hln
  have HF := Lib.hid (fin_of 25 HO.out HS.out ho hr hg)
  have hne : w.heap.size + 1 < w1.heap.size := by have := hg.size; have := HS.out; omega
  obtain ⟨lt, c0, c1, c2, z1, z2⟩ := hr
  clear HO HS ho hg z1 z2 c0
  go_wp2_with fail
  clear c1 c2
  generalize w1.heap.size = g at *
  generalize w1.alloc _ = W1 at *
  obtain ⟨⟨hb, hsz, r0, r1, r2, r3, r4, z0, z1, z2, z3, z4⟩, x0, x1, x2, x3, x4, c1, c2, own, ne⟩ := HF.out
  go_region
  go_wp2
  refine bodyPost_ret (v := .tuple #[.agg #[.int .i64 0, .int .i64 0, .int .i64 0, .int .i64 0, .slice none 0 0], .int .i64 0, .int .i64 (e : Int)]) (by simp [results, Try.results22, go_sem, r0, r1, r2, r3, r4]) rfl ?_
  exact ⟨none, 0, 0, rfl, rfl, OwnI.nil _ _, (((((hb.setCell (Nat.le_refl _) _).setCell (Nat.le_refl _) _).setCell (Nat.le_refl _) _).setCell (Nat.le_refl _) _).setCell (Nat.le_refl _) _).drew⟩
set_option maxHeartbeats 4000000 in
set_option maxRecDepth 100000 in
theorem one_ok (he : ((e : Int) != 0) = false) : Calls Try.prog 22 #[.slice A len c] w (OneO w (y, p, 0)) := by
  obtain ⟨hO, hR⟩ := two_of w A len c 25 68
  have HR := Lib.hid hR
  have HO := Lib.hid hO
  have HB := Lib.hid hO.below
  clear hO hR
  go_enter Try.func22, Try.ntmps22
  go_wp2_with fail
  refine (HI.out _ _ (Nat.lt_succ_self _) (by simp) HB.out HR.out).mono ?_
  have hs : ((w.alloc (.cells #[.int .i64 0, .int .i64 0, .int .i64 0, .int .i64 0, .slice none 0 0] 25)).alloc (.cells #[.slice A len c, .int .i64 0, .int .i64 0] 68)).heap.size = w.heap.size + 2 := by simp
  have HS := Lib.hid hs
  clear hs HI HB HR
  generalize (w.alloc _).alloc _ = W at *
  rintro en w1 ⟨v, rfl, ho, hr, hg⟩
  obtain ⟨LA, lc, rfl, _, _, _⟩ := ho.ints
  generalize hln : y.l.length = ln at *
  have HLN := Lib.hid hln.symm
  clear hln
  have HF := Lib.hid (fin_of 25 HO.out HS.out ho hr hg)
  have hne : w.heap.size + 1 < w1.heap.size := by have := hg.size; have := HS.out; omega
  obtain ⟨lt, c0, c1, c2, z1, z2⟩ := hr
  clear HO HS ho hg z1 z2 c0
  go_wp2_with fail
  clear c1 c2
  generalize w1.heap.size = g at *
  generalize w1.alloc _ = W1 at *
  obtain ⟨⟨hb, hsz, r0, r1, r2, r3, r4, z0, z1, z2, z3, z4⟩, x0, x1, x2, x3, x4, c1, c2, own, ne⟩ := HF.out
  go_region
  go_wp2
  refine bodyPost_ret (v := .tuple #[.agg #[.int .i64 y.op, .int .i64 y.a, .int .i64 y.b, .int .i64 y.k, .slice LA ln lc], .int .i64 (p : Int), .int .i64 0]) (by simp [results, Try.results22, go_sem, r0, r1, r2, r3, r4]) rfl ?_
  have hO := (ownI_set (i := 4) (u := .slice LA ln lc) (ownI_set (i := 3) (u := .int .i64 y.k) (ownI_set (i := 2) (u := .int .i64 y.b) (ownI_set (i := 1) (u := .int .i64 y.a) (ownI_set (i := 0) (u := .int .i64 y.op) own (Nat.lt_succ_self _)) (Nat.lt_succ_self _)) (Nat.lt_succ_self _)) (Nat.lt_succ_self _)) (Nat.lt_succ_self _))
  exact ⟨LA, lc, ln, HLN.out, rfl, ownI_lo hO (Nat.le_succ _), (((((hb.setCell (Nat.le_refl _) _).setCell (Nat.le_refl _) _).setCell (Nat.le_refl _) _).setCell (Nat.le_refl _) _).setCell (Nat.le_refl _) _).drew⟩
end
theorem oneO_any (A : Option Addr) (l : List Nat) (c : Nat) (w : World) (hs : Slc w A c l) (hl : l.length ≤ 10000000) : Calls Try.prog 22 #[.slice A l.length c] w (OneO w (oneRes l 0)) := by
  have HI := Lib.hid (fun W r (h1 : w.heap.size < r) (_ : r < W.heap.size) (hb : Below w.heap.size w W) (hr : Rd W r (.slice A l.length c) 0 0) =>
    ins_any hr ⟨(hs.bytes.below hb).more (Nat.le_of_lt h1), hs.nil, hs.room, hl⟩)
  rw [← instr_is l]
  unfold endR
  generalize instrRes l = g at *
  obtain ⟨y, p, e⟩ := g
  simp only at HI ⊢
  by_cases h : e = 0
  · subst h
    rw [if_neg (by simp)]
    exact one_ok w A l.length c y p 0 HI (by decide)
  · rw [if_pos h]
    exact one_err w A l.length c y p e HI (by simp; omega)
theorem one_any (A : Option Addr) (l : List Nat) (c : Nat) (w : World) (hs : Slc w A c l) (hl : l.length ≤ 10000000) : Calls Try.prog 22 #[.slice A l.length c] w (One3 w (oneRes l 0)) :=
  (oneO_any A l c w hs hl).mono fun _ _ h => h.three
end Go.Proofs.Ytdipgokbfjbgfaa.Ins
