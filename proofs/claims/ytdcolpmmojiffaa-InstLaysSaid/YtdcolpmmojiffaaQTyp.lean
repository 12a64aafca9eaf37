/-
  TypPlain: TypPlain: what names no function of the program. Conditions as each lemma says.
  TypInts: Slices of ints in memory: what they lead to; what a call made itself; append of one onto them; SameInts. Conditions as each lemma says.
  TypPlainOwn: TypPlainOwn: what names no function of the program. Conditions as each lemma says.
-/
import Derived.Test.YtdcolpmmojiffaaQLeb
import Derived.Handy
import Derived.Deep.RegionHeldLaw
import Derived.Lib.SliceRun
import Derived.OwnWalk
namespace Go.Proofs.Ytdcolpmmojiffaa.Typ
open Go.RowKit Leb

def rightBlock (t : Int) : Bool := decide (t = -64 ∨ t = -1 ∨ t = -2 ∨ (0 ≤ t ∧ t ≤ 4294967295))
def Ints (w : World) (B : Nat) (A : Option Addr) (l : List Int) : Prop :=
  0 < l.length → ∃ b off, A = some ⟨b, off, none⟩ ∧ b < B ∧ ∀ (j : Nat) (h : j < l.length), w.cell? ⟨b, off + j, none⟩ = some (.int .i64 l[j])
theorem Ints.below {w w' : World} {B : Nat} {A : Option Addr} {l : List Int} (h : Ints w B A l) (hb : Below B w w') : Ints w' B A l := by
  intro hl
  obtain ⟨b, off, e, hB, hc⟩ := h hl
  exact ⟨b, off, e, hB, fun j hj => (hb.cell hB).trans (hc j hj)⟩
theorem Ints.more {w : World} {B B' : Nat} {A : Option Addr} {l : List Int} (h : Ints w B A l) (hB : B ≤ B') : Ints w B' A l := by
  intro hl
  obtain ⟨b, off, e, hb, hc⟩ := h hl
  exact ⟨b, off, e, by omega, hc⟩
theorem Ints.drewN {w : World} {B : Nat} {A : Option Addr} {l : List Int} (h : Ints w B A l) (n : Nat) : Ints (w.drewN n) B A l := h
theorem Ints.nil (w : World) (B : Nat) (A : Option Addr) : Ints w B A [] := fun h => absurd h (by simp)
theorem ints_of_row {w : World} {a : Option Addr} {len cap : Nat} {zs : List Int} (h : RowIn .i64 w a len cap zs) :
    ∃ l : List Int, l.length = len ∧ Ints w w.heap.size a l ∧ (∀ x ∈ l, -9223372036854775808 ≤ x ∧ x ≤ 9223372036854775807) ∧ len ≤ cap ∧ cap ≤ maxLen := by
  rcases h with ⟨rfl, rfl, rfl, rfl⟩ | ⟨x, rfl, hl, hm, hz, hcell, hwf⟩
  · exact ⟨[], rfl, Ints.nil _ _ _, by simp, Nat.le_refl _, by simp [maxLen]⟩
  · refine ⟨zs.take len, by simp; omega, ?_, fun y hy => bounds_i64 (hwf y (List.mem_of_mem_take hy)), hl, hm⟩
    intro hlen
    have hlen' : 0 < len := by simp at hlen; omega
    have h0 := hcell 0 (by omega)
    obtain ⟨b, off, spot⟩ := x
    have hspot : spot = none := by simpa [Addr.add] using World.cell?_spot h0
    subst hspot
    have hblk : b < w.heap.size := by
      have := World.block_lt_of_cell? w _ h0
      simpa [Addr.add] using this
    refine ⟨b, off, rfl, hblk, ?_⟩
    intro j hj
    have hj' : j < len ∧ j < zs.length := by simp at hj; omega
    have hc := hcell j hj'.2
    have e1 : zs.getD j 0 = zs[j] := by simp [List.getD, List.getElem?_eq_getElem hj'.2]
    rw [e1] at hc
    have e2 : (zs.take len)[j] = zs[j] := by simp
    rw [e2]
    by_cases h0 : j = 0
    · subst h0; simpa [Addr.add] using hc
    · simpa [Addr.add, h0] using hc
def iv (x : Int) : Value := .int .i64 x
theorem int_info : (Try.prog.info? 3).map (fun i => (i.zero, i.size, i.bytes)) = some (some (.int .i64 0), 1, 8) := by kernel_rfl
def OwnI (w : World) (base : Nat) (v : Value) (l : List Int) : Prop := w.ownsRow base 3 1 v l.length (l.map iv)
theorem OwnI.alloc {w : World} {base : Nat} {v : Value} {l : List Int} (h : OwnI w base v l) (o : Obj) : OwnI (w.alloc o) base v l := World.ownsRow.alloc h o
theorem OwnI.nil (w : World) (base : Nat) : OwnI w base (.slice none 0 0) [] := World.ownsRow_nil _ _ _ _
theorem OwnI.lt {w : World} {base : Nat} {v : Value} {l : List Int} (h : OwnI w base v l) : ∀ k, v.ownBlock = some k → k < w.heap.size := fun k hk => (World.ownsRow.lt h k hk).2
theorem OwnI.keep {w w' : World} {base B : Nat} {v : Value} {l : List Int} (h : OwnI w base v l) (hb : Below B w w') (hB : ∀ k, v.ownBlock = some k → k < B) : OwnI w' base v l := by
  refine ⟨h.1, ?_⟩
  rcases h.2 with ⟨rfl, h0⟩ | ⟨g, cap, cur, rfl, h1, h2, h3, h4, h5⟩
  · exact .inl ⟨rfl, h0⟩
  · exact .inr ⟨g, cap, cur, rfl, h1, (hb.block g (hB g rfl)).trans h2, h3, h4, h5⟩
theorem take_nextI {l l' : List Int} {k : Nat} (h : k < l.length) (h' : k < l'.length) (ht : l.take k = l'.take k) (he : l[k] = l'[k]) : l.take (k + 1) = l'.take (k + 1) := by
  rw [List.take_succ_eq_append_getElem h, List.take_succ_eq_append_getElem h', ht, he]
structure ResAt (w : World) (r : Nat) : Prop where
  c0 : w.cell? ⟨r, 0, none⟩ = some (.slice none 0 0)
  c1 : w.cell? ⟨r, 1, none⟩ = some (.slice none 0 0)
  z0 : w.frozen? ⟨r, 0, none⟩ = false
  z1 : w.frozen? ⟨r, 1, none⟩ = false
theorem ResAt.below {w w' : World} {r : Nat} (h : ResAt w r) (hr : r < w.heap.size) (hb : Below w.heap.size w w') : ResAt w' r :=
  ⟨(hb.cell (p := ⟨r, 0, none⟩) hr).trans h.c0, (hb.cell (p := ⟨r, 1, none⟩) hr).trans h.c1, (hb.frozen (p := ⟨r, 0, none⟩) hr).trans h.z0, (hb.frozen (p := ⟨r, 1, none⟩) hr).trans h.z1⟩
def good (xs : List Int) : Prop := xs.length ≤ 8 ∧ ∀ x ∈ xs, x = 127 ∨ x = 126
instance (xs : List Int) : Decidable (good xs) := by unfold good; infer_instance
def pick (ps rs : List Int) (j : Nat) : List Int := if j = 0 then ps else rs
structure Two (W : World) (B : Nat) (ps rs : List Int) : Prop where
  cell : ∀ j, j < 2 → ∃ A c, W.cell? ⟨B, j, none⟩ = some (.slice A (pick ps rs j).length c) ∧ Ints W W.heap.size A (pick ps rs j)
structure Free (W wr : World) (g : Nat) (v : Value) : Prop where
  os : wr.os = W.os
  tape : wr.tape = W.tape
  output : wr.output = W.output
  size : W.heap.size ≤ wr.heap.size
  block : ∀ k, k < W.heap.size → k ≠ g → wr.heap[k]? = W.heap[k]?
  own : v.ownBlock = some g ∨ ∃ k, v.ownBlock = some k ∧ W.heap.size ≤ k
theorem Free.alloc {W wr : World} {g : Nat} {v : Value} (h : Free W wr g v) (o : Obj) : Free W (wr.alloc o) g v :=
  ⟨h.os, h.tape, h.output, by have := h.size; simp; omega, fun k hk hg => by rw [Below.heap_alloc _ _ _ (by have := h.size; omega)]; exact h.block k hk hg, h.own⟩
theorem Free.grown {W wr w' : World} {g : Nat} {v v' : Value} (h : Free W wr g v) (hg : wr.grownBy w' v.ownBlock) (ho : v'.ownBlock = v.ownBlock ∨ v'.ownBlock = some wr.heap.size) : Free W w' g v' := by
  refine ⟨hg.os.trans h.os, hg.tape.trans h.tape, hg.output.trans h.output, Nat.le_trans h.size hg.size, fun k hk hkg => ?_, ?_⟩
  · rw [hg.block k (Nat.lt_of_lt_of_le hk h.size) ?_]
    · exact h.block k hk hkg
    · intro e
      rcases h.own with h1 | ⟨k', h1, h2⟩
      · rw [h1] at e; injection e with e; exact hkg e
      · rw [h1] at e; injection e with e; omega
  · rcases ho with ho | ho
    · rw [ho]; exact h.own
    · exact .inr ⟨_, ho, h.size⟩
theorem Free.below {w W wr : World} {g : Nat} {v : Value} (h : Free W wr g v) (hb : Below w.heap.size w W) (hg : w.heap.size ≤ g) : Below w.heap.size w wr :=
  ⟨h.os.trans hb.os, h.tape.trans hb.tape, h.output.trans hb.output, Nat.le_trans hb.size h.size, fun k hk => (h.block k (Nat.lt_of_lt_of_le hk hb.size) (by omega)).trans (hb.block k hk)⟩
structure LAt (w W : World) (b off k : Nat) (x0 x1 : Int) : Prop where
  below : Below w.heap.size w W
  size : w.heap.size + 1 < W.heap.size
  first : W.cell? ⟨b, off, none⟩ = some (.int .u8 (k : Int))
  r0 : W.cell? ⟨w.heap.size, 0, none⟩ = some (.int .i64 0)
  r1 : W.cell? ⟨w.heap.size, 1, none⟩ = some (.bool false)
  r2 : W.cell? ⟨w.heap.size, 2, none⟩ = some (.int .i64 0)
  z0 : W.frozen? ⟨w.heap.size, 0, none⟩ = false
  z1 : W.frozen? ⟨w.heap.size, 1, none⟩ = false
  z2 : W.frozen? ⟨w.heap.size, 2, none⟩ = false
  n0 : W.cell? ⟨w.heap.size + 1, 0, none⟩ = some (.int .i64 x0)
  n1 : W.cell? ⟨w.heap.size + 1, 1, none⟩ = some (.int .i64 x1)
  y0 : W.frozen? ⟨w.heap.size + 1, 0, none⟩ = false
  y1 : W.frozen? ⟨w.heap.size + 1, 1, none⟩ = false
theorem LAt.keep {w W W' : World} {b off k : Nat} {x0 x1 : Int} (h : LAt w W b off k x0 x1) (hb : b < w.heap.size) (h' : Below W.heap.size W W') : LAt w W' b off k x0 x1 := by
  have hs := h.size
  have C : ∀ p : Addr, p.block ≤ w.heap.size + 1 → W'.cell? p = W.cell? p := fun p hp => h'.cell (by omega)
  have F : ∀ p : Addr, p.block ≤ w.heap.size + 1 → W'.frozen? p = W.frozen? p := fun p hp => h'.frozen (by omega)
  exact ⟨h.below.trans (h'.mono h.below.size), by have := h'.size; omega, (C _ (by simp; omega)).trans h.first, (C _ (by simp)).trans h.r0, (C _ (by simp)).trans h.r1, (C _ (by simp)).trans h.r2, (F _ (by simp)).trans h.z0, (F _ (by simp)).trans h.z1, (F _ (by simp)).trans h.z2,
    (C _ (by simp)).trans h.n0, (C _ (by simp)).trans h.n1, (F _ (by simp)).trans h.y0, (F _ (by simp)).trans h.y1⟩
theorem LAt.at {w W : World} {b off k : Nat} {x0 x1 : Int} (h : LAt w W b off k x0 x1) (j : Nat) (hj : j < 2) : (∃ v, W.cell? ⟨w.heap.size + 1, j, none⟩ = some v) ∧ W.frozen? ⟨w.heap.size + 1, j, none⟩ = false := by
  match j, hj with
  | 0, _ => exact ⟨⟨_, h.n0⟩, h.y0⟩
  | 1, _ => exact ⟨⟨_, h.n1⟩, h.y1⟩
theorem bytes_from {w : World} {B : Nat} {b off : Nat} {l : List Nat} (hb : Bytes w B (some ⟨b, off, none⟩) l) (p : Nat) : Bytes w B (some ⟨b, off + p, none⟩) (l.drop p) := by
  refine ⟨fun x hx => hb.1 x (List.mem_of_mem_drop hx), fun hl => ?_⟩
  obtain ⟨b', off', e, hbb, hc⟩ := hb.2 (by simp at hl; omega)
  injection e with e
  injection e with e1 e2 _
  subst e1 e2
  refine ⟨b, off + p, rfl, hbb, fun j hj => ?_⟩
  have hj' : p + j < l.length := by simp at hj; omega
  rw [Nat.add_assoc, hc (p + j) hj']
  simp
theorem app_step {w : World} {ops : Array Oper} {o : Oper} {a : Act} {K : Act → World → Prop} {Q : Exit → Act → World → Prop} {E : Prop} (hg : o.guard = none) (s x : Operand) (ho : o.op = .call { callee := .builtin .append, args := #[s, x], argTypes := #[22, 22] })
    (base : Nat) (v : Value) (l : List Nat) (hs : a.eval s = v) (hown : Own w base v l) (hb : ∀ y ∈ l, y < 256) (A : Option Addr) (l' : List Nat) (m c B k : Nat) (hm : l'.length = m) (hx : a.eval x = .slice A m c) (hr : Bytes w B A l') (h0 : 0 < m)
    (hk : (l ++ l').length = k) (hlen : k ≤ 140737488355328) (hbase : base ≤ w.heap.size)
    (h : ∀ A' c' w', Own w' base (.slice A' k c') (l ++ l') → Bytes w' w'.heap.size A' (l ++ l') → k ≤ c' → (A' = none → c' = 0) → Below base w w' → K (a.put o.dst (.slice A' k c')) w') :
    if Region.wanted o (yielded ops a.tmps) = true then Oper.wp Try.prog o a w K Q else E := by
  have hw : Region.wanted o (yielded ops a.tmps) = true := by simp [Region.wanted, hg]
  rw [if_pos hw]
  obtain ⟨i0, hi0, hz0, hz1, hz2⟩ := info_parts u8_info
  subst hm
  have hlen' : l.length + l'.length ≤ 140737488355328 := by simp at hk; omega
  obtain ⟨b, off, rfl, _, hcell⟩ := hr.2 h0
  refine wp_append_own w s x _ ho base 5 i0 (.int .u8 0) 1 1 Try.underlying22 hi0 hz0 hz1 hz2 rfl (by omega) v l.length (l.map bv) hs hown ⟨b, off, none⟩ l'.length c (l'.map bv) hx (by simp) ?_ (bv_oneCell l') (by simp only [maxLen]; omega) (by omega) hbase ?_
  · intro j u hu
    have hj : j < l'.length := by
      rcases Nat.lt_or_ge j l'.length with hj | hj
      · exact hj
      · rw [List.getElem?_eq_none (by simpa using hj)] at hu; cases hu
    have := hcell j hj
    rw [List.getElem?_map, List.getElem?_eq_getElem hj] at hu
    simp at hu
    subst hu
    by_cases h0 : j = 0
    · subst h0; simpa [Addr.add, bv] using this
    · simpa [Addr.add, h0, bv] using this
  · intro v' w' h1 h2 _
    have ho' : Own w' base v' (l ++ l') := by
      unfold Own
      rw [List.length_append, List.map_append]
      exact h1
    subst hk
    obtain ⟨A', c', hv, h3, h4, h5⟩ := ho'.bytes (fun y hy => (List.mem_append.1 hy).elim (hb y) (hr.1 y))
    subst hv
    exact h A' c' w' ho' h3 h4 h5 (below_own hown hbase h2)
def I64 (n : Int) : Prop := -9223372036854775808 ≤ n ∧ n ≤ 9223372036854775807
structure Slc (w : World) (A : Option Addr) (c : Nat) (l : List Nat) : Prop where
  bytes : Bytes w w.heap.size A l
  nil : A = none → c = 0
  room : l.length ≤ c
theorem Slc.below {w w' : World} {A : Option Addr} {c : Nat} {l : List Nat} (h : Slc w A c l) (hb : Below w.heap.size w w') : Slc w' A c l := ⟨(h.bytes.below hb).more hb.size, h.nil, h.room⟩
theorem gath_is {l : List Nat} {m v s : Nat} (h : gath l m = (v, s, 0)) : lead l < m ∧ lead l < l.length ∧ s = lead l + 1 ∧ v = gv l (lead l + 1) := by
  unfold gath at h
  have hl := lead_le l
  by_cases h1 : m ≤ lead l
  · rw [if_pos h1] at h; simp at h
  · rw [if_neg h1] at h
    by_cases h2 : lead l = l.length
    · rw [if_pos h2] at h; simp at h
    · rw [if_neg h2] at h
      simp only [Prod.mk.injEq] at h
      exact ⟨by omega, by omega, h.2.1.symm, h.1.symm⟩
theorem uRes_is {l : List Nat} {n u s : Nat} (h : uRes l n = (u, s, 0)) : gath l (most n) = (u, s, 0) ∧ ¬ (s = most n ∧ l.getD (most n - 1) 0 / 2 ^ inl n ≠ 0) := by
  unfold uRes at h
  by_cases h1 : (gath l (most n)).2.2 = 0
  · rw [if_pos h1] at h
    by_cases h2 : (gath l (most n)).2.1 = most n ∧ l.getD (most n - 1) 0 / 2 ^ inl n ≠ 0
    · rw [if_pos h2] at h; simp at h
    · rw [if_neg h2] at h
      rw [h] at h2
      exact ⟨h, h2⟩
  · rw [if_neg h1] at h
    simp only [Prod.mk.injEq] at h
    exact absurd h.2.2 h1
end Go.Proofs.Ytdcolpmmojiffaa.Typ
namespace Go.Proofs.Ytdcolpmmojiffaa.Typ
open Go.RowKit Leb

set_option maxHeartbeats 1000000 in
theorem sameInts_any (A A' : Option Addr) (l l' : List Int) (c c' B B' : Nat) (w : World) (hb : Ints w B A l) (hb' : Ints w B' A' l') (hlen : l.length ≤ 140737488355328) (hlen' : l'.length ≤ 140737488355328) :
    Calls Try.prog 20 #[.slice A l.length c, .slice A' l'.length c'] w fun e w' => e = .returned (.bool (decide (l = l'))) ∧ ∃ m, w' = w.drewN m := by
  by_cases hll : l.length = l'.length
  · have hne : ((l.length : Int) != (l'.length : Int)) = false := by simp; omega
    have HLL := Lib.hid hll
    clear hll
    go_enter Try.func20, Try.ntmps20
    go_wp2
    go_loopw [5] (fun i wr => ∃ (k m : Nat), k ≤ l.length ∧ i = .int .i64 (k : Int) ∧ Hid (l.take k = l'.take k) ∧ wr = w.drewN m) (fun i _ => l.length - (intOf i).toNat)
    case atStart => exact ⟨0, 0, Nat.zero_le _, rfl, Lib.hid rfl, rfl⟩
    case round =>
      obtain ⟨k, m, hk, rfl, ht, rfl⟩ := hrel
      by_cases hl : k < l.length
      · have hl' : k < l'.length := by have := HLL.out; omega
        obtain ⟨b, off, rfl, _, hcs⟩ := hb (by omega)
        obtain ⟨b', off', rfl, _, hcs'⟩ := hb' (by omega)
        have hc1 := hcs k hl
        have hc2 := hcs' k hl'
        have hli : (k : Int) < (l.length : Int) := by omega
        have hli' : (k : Int) < (l'.length : Int) := by omega
        obtain ⟨x, hx⟩ : ∃ x, x = l[k] := ⟨_, rfl⟩
        obtain ⟨y, hy⟩ : ∃ y, y = l'[k] := ⟨_, rfl⟩
        rw [← hx] at hc1
        rw [← hy] at hc2
        have HX := Lib.hid hx
        have HY := Lib.hid hy
        clear hcs hcs' hb hb' hx hy
        by_cases hxy : x = y
        · subst hxy
          go_wp2
          go_quiet (fail)
          go_wp2
          go_roundw
          case rel => exact ⟨k + 1, _, by omega, by go_num, Lib.hid (take_nextI hl hl' ht.out (by rw [← HX.out, ← HY.out])), rfl⟩
          case measure => simp [intOf]; omega
        · have hxb : (x != y) = true := by simp; omega
          have HXY := Lib.hid hxy
          clear hxy
          go_wp2
          go_quiet (fail)
          go_wp2
          go_ret
          refine ⟨ret_bool (decide_eq_false fun h => HXY.out ?_).symm, _, World.drewN_drewN _ _ _⟩
          subst h
          rw [HX.out, HY.out]
      · have hli : ¬ (k : Int) < (l.length : Int) := by omega
        clear hb hb'
        go_wp2
        go_ret
        refine ⟨ret_bool (decide_eq_true ?_).symm, m, rfl⟩
        have h1 := ht.out
        have h2 := HLL.out
        rw [List.take_of_length_le (by omega), List.take_of_length_le (by omega)] at h1
        exact h1
  · have hne : ((l.length : Int) != (l'.length : Int)) = true := by simp; omega
    have HLL := Lib.hid hll
    clear hll
    go_enter Try.func20, Try.ntmps20
    go_wp2
    go_ret
    exact ⟨ret_bool (decide_eq_false fun h => HLL.out (by rw [h])).symm, 0, rfl⟩
end Go.Proofs.Ytdcolpmmojiffaa.Typ
namespace Go.Proofs.Ytdcolpmmojiffaa.Typ
open Go.RowKit Leb

structure FAt (w W : World) : Prop where
  below : Below w.heap.size w W
  size : w.heap.size < W.heap.size
  res : ResAt W w.heap.size
theorem FAt.keep {w W W' : World} (h : FAt w W) (h' : Below W.heap.size W W') : FAt w W' :=
  ⟨h.below.trans (h'.mono h.below.size), Nat.lt_of_lt_of_le h.size h'.size, h.res.below h.size h'⟩
structure LmAt (w W : World) : Prop where
  below : Below w.heap.size w W
  size : w.heap.size < W.heap.size
  r0 : W.cell? ⟨w.heap.size, 0, none⟩ = some (.int .i64 0)
  r1 : W.cell? ⟨w.heap.size, 1, none⟩ = some (.bool false)
  r2 : W.cell? ⟨w.heap.size, 2, none⟩ = some (.int .i64 0)
  z0 : W.frozen? ⟨w.heap.size, 0, none⟩ = false
  z1 : W.frozen? ⟨w.heap.size, 1, none⟩ = false
  z2 : W.frozen? ⟨w.heap.size, 2, none⟩ = false
theorem LmAt.keep {w W W' : World} (h : LmAt w W) (h' : Below W.heap.size W W') : LmAt w W' := by
  have hs := h.size
  have C : ∀ p : Addr, p.block = w.heap.size → W'.cell? p = W.cell? p := fun p hp => h'.cell (by omega)
  have F : ∀ p : Addr, p.block = w.heap.size → W'.frozen? p = W.frozen? p := fun p hp => h'.frozen (by omega)
  exact ⟨h.below.trans (h'.mono h.below.size), Nat.lt_of_lt_of_le h.size h'.size, (C _ rfl).trans h.r0, (C _ rfl).trans h.r1, (C _ rfl).trans h.r2, (F _ rfl).trans h.z0, (F _ rfl).trans h.z1, (F _ rfl).trans h.z2⟩
structure B2 (w W : World) (x0 x1 : Value) : Prop where
  below : Below w.heap.size w W
  size : w.heap.size < W.heap.size
  c0 : W.cell? ⟨w.heap.size, 0, none⟩ = some x0
  c1 : W.cell? ⟨w.heap.size, 1, none⟩ = some x1
theorem B2.keep {w W W' : World} {x0 x1 : Value} (h : B2 w W x0 x1) (h' : Below W.heap.size W W') : B2 w W' x0 x1 := by
  have hs := h.size
  have C : ∀ p : Addr, p.block = w.heap.size → W'.cell? p = W.cell? p := fun p hp => h'.cell (by omega)
  exact ⟨h.below.trans (h'.mono h.below.size), Nat.lt_of_lt_of_le hs h'.size, (C _ rfl).trans h.c0, (C _ rfl).trans h.c1⟩
structure B3 (w W : World) (x0 x1 x2 : Value) : Prop where
  below : Below w.heap.size w W
  size : w.heap.size < W.heap.size
  c0 : W.cell? ⟨w.heap.size, 0, none⟩ = some x0
  c1 : W.cell? ⟨w.heap.size, 1, none⟩ = some x1
  c2 : W.cell? ⟨w.heap.size, 2, none⟩ = some x2
theorem B3.keep {w W W' : World} {x0 x1 x2 : Value} (h : B3 w W x0 x1 x2) (h' : Below W.heap.size W W') : B3 w W' x0 x1 x2 := by
  have hs := h.size
  have C : ∀ p : Addr, p.block = w.heap.size → W'.cell? p = W.cell? p := fun p hp => h'.cell (by omega)
  exact ⟨h.below.trans (h'.mono h.below.size), Nat.lt_of_lt_of_le hs h'.size, (C _ rfl).trans h.c0, (C _ rfl).trans h.c1, (C _ rfl).trans h.c2⟩
theorem B3.drew {w W : World} {x0 x1 x2 : Value} (h : B3 w W x0 x1 x2) : B3 w W.drew x0 x1 x2 := ⟨h.below.drew, h.size, h.c0, h.c1, h.c2⟩
end Go.Proofs.Ytdcolpmmojiffaa.Typ
