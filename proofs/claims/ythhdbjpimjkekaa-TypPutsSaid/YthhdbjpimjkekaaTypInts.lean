/-
  Slices of ints in memory: what they lead to; what a call made itself; append of one onto them; SameInts. Conditions as each lemma says.
-/
import Derived.Test.YthhdbjpimjkekaaLebOwn
namespace Go.Proofs.Ythhdbjpimjkekaa.Typ
open Go.RowKit Leb

/-- Ints that a slice leads to: each a cell of its own, in a block below B. -/
def Ints (w : World) (B : Nat) (A : Option Addr) (l : List Int) : Prop :=
  0 < l.length → ∃ b off, A = some ⟨b, off, none⟩ ∧ b < B ∧ ∀ (j : Nat) (h : j < l.length), w.cell? ⟨b, off + j, none⟩ = some (.int .i64 l[j])
theorem Ints.below {w w' : World} {B : Nat} {A : Option Addr} {l : List Int} (h : Ints w B A l) (hb : Below B w w') : Ints w' B A l := by
  intro hl
  obtain ⟨b, off, e, hB, hc⟩ := h hl
  exact ⟨b, off, e, hB, fun j hj => (hb.cell hB).trans (hc j hj)⟩
theorem Ints.more {w : World} {B B' : Nat} {A : Option Addr} {l : List Int} (h : Ints w B A l) (hB : B ≤ B') : Ints w B' A l := by
  intro hl
  obtain ⟨b, off, e, hb, hc⟩ := h hl
  exact ⟨b, off, e, by omega, hc⟩
theorem Ints.drewN {w : World} {B : Nat} {A : Option Addr} {l : List Int} (h : Ints w B A l) (n : Nat) : Ints (w.drewN n) B A l := h
theorem Ints.nil (w : World) (B : Nat) (A : Option Addr) : Ints w B A [] := fun h => absurd h (by simp)
theorem ints_of_row {w : World} {a : Option Addr} {len cap : Nat} {zs : List Int} (h : RowIn .i64 w a len cap zs) :
    ∃ l : List Int, l.length = len ∧ Ints w w.heap.size a l ∧ (∀ x ∈ l, -9223372036854775808 ≤ x ∧ x ≤ 9223372036854775807) ∧ len ≤ cap ∧ cap ≤ maxLen := by
  rcases h with ⟨rfl, rfl, rfl, rfl⟩ | ⟨x, rfl, hl, hm, hz, hcell, hwf⟩
  · exact ⟨[], rfl, Ints.nil _ _ _, by simp, Nat.le_refl _, by simp [maxLen]⟩
  · refine ⟨zs.take len, by simp; omega, ?_, fun y hy => bounds_i64 (hwf y (List.mem_of_mem_take hy)), hl, hm⟩
    intro hlen
    have hlen' : 0 < len := by simp at hlen; omega
    have h0 := hcell 0 (by omega)
    obtain ⟨b, off, spot⟩ := x
    have hspot : spot = none := by simpa [Addr.add] using World.cell?_spot h0
    subst hspot
    have hblk : b < w.heap.size := by
      have := World.block_lt_of_cell? w _ h0
      simpa [Addr.add] using this
    refine ⟨b, off, rfl, hblk, ?_⟩
    intro j hj
    have hj' : j < len ∧ j < zs.length := by simp at hj; omega
    have hc := hcell j hj'.2
    have e1 : zs.getD j 0 = zs[j] := by simp [List.getD, List.getElem?_eq_getElem hj'.2]
    rw [e1] at hc
    have e2 : (zs.take len)[j] = zs[j] := by simp
    rw [e2]
    by_cases h0 : j = 0
    · subst h0; simpa [Addr.add] using hc
    · simpa [Addr.add, h0] using hc
def iv (x : Int) : Value := .int .i64 x
theorem int_info : (Try.prog.info? 3).map (fun i => (i.zero, i.size, i.bytes)) = some (some (.int .i64 0), 1, 8) := by kernel_rfl
/-- The slice value v owns the ints l, in a block from 'base' on. -/
def OwnI (w : World) (base : Nat) (v : Value) (l : List Int) : Prop := w.ownsRow base 3 1 v l.length (l.map iv)
theorem OwnI.alloc {w : World} {base : Nat} {v : Value} {l : List Int} (h : OwnI w base v l) (o : Obj) : OwnI (w.alloc o) base v l := World.ownsRow.alloc h o
theorem OwnI.nil (w : World) (base : Nat) : OwnI w base (.slice none 0 0) [] := World.ownsRow_nil _ _ _ _
theorem OwnI.lt {w : World} {base : Nat} {v : Value} {l : List Int} (h : OwnI w base v l) : ∀ k, v.ownBlock = some k → k < w.heap.size := fun k hk => (World.ownsRow.lt h k hk).2
theorem OwnI.keep {w w' : World} {base B : Nat} {v : Value} {l : List Int} (h : OwnI w base v l) (hb : Below B w w') (hB : ∀ k, v.ownBlock = some k → k < B) : OwnI w' base v l := by
  refine ⟨h.1, ?_⟩
  rcases h.2 with ⟨rfl, h0⟩ | ⟨g, cap, cur, rfl, h1, h2, h3, h4, h5⟩
  · exact .inl ⟨rfl, h0⟩
  · exact .inr ⟨g, cap, cur, rfl, h1, (hb.block g (hB g rfl)).trans h2, h3, h4, h5⟩
/-- What is owned, as a slice that leads to ints. -/
theorem OwnI.ints {w : World} {base : Nat} {v : Value} {l : List Int} (h : OwnI w base v l) :
    ∃ A cap, v = .slice A l.length cap ∧ Ints w w.heap.size A l ∧ l.length ≤ cap ∧ (A = none → cap = 0) := by
  have hlt := h.lt
  rcases h.2 with ⟨rfl, h0⟩ | ⟨g, cap, cur, rfl, h1, h2, h3, h4, h5⟩
  · refine ⟨none, 0, by rw [h0], fun h => by omega, by omega, fun _ => rfl⟩
  · refine ⟨some ⟨g, 0, none⟩, cap, rfl, fun _ => ⟨g, 0, rfl, hlt g rfl, fun j hj => ?_⟩, h3, fun h => by cases h⟩
    have hc := World.ownsRow.cellAt h j (by omega)
    rw [Nat.zero_add, hc]
    simp [iv, hj]
theorem belowI_own {w w' : World} {base : Nat} {v : Value} {l : List Int} (h : OwnI w base v l) (hb : base ≤ w.heap.size) (hg : w.grownBy w' v.ownBlock) : Below base w w' :=
  (Below.refl _ _).grown hg hb (fun k hk => (World.ownsRow.lt h k hk).1)
/-- 'append(s, x)': s is owned. -/
theorem app_int {w : World} {ops : Array Oper} {rest : List Oper} {o : Oper} {a : Act} {Q : Exit → Act → World → Prop} (hgd : o.guard = none) (s x : Operand) (ho : o.op = .call { callee := .builtin .append, args := #[s, x], argTypes := #[24, 24] })
    (base : Nat) (v : Value) (l : List Int) (hs : a.eval s = v) (hown : OwnI w base v l) (g : Nat) (y : Int) (hx : a.eval x = .slice (some ⟨g, 0, none⟩) 1 1) (hy : w.cell? ⟨g, 0, none⟩ = some (.int .i64 y))
    (hlen : l.length ≤ 1000000) (hbase : base ≤ w.heap.size)
    (h : ∀ v' w', OwnI w' base v' (l ++ [y]) → Below base w w' → wpList Try.prog ops Q rest (a.put o.dst v') w') : wpList Try.prog ops Q (o :: rest) a w := by
  obtain ⟨i0, hi0, hz0, hz1, hz2⟩ := info_parts int_info
  refine wpList_append_own_at w hgd s x _ ho base 3 i0 (.int .i64 0) 1 8 Try.underlying24 hi0 hz0 hz1 hz2 rfl (by omega) v l.length (l.map iv) hs hown ⟨g, 0, none⟩ 1 1 [iv y] hx (by simp) ?_ ?_ (by simp only [maxLen]; omega) (by omega) hbase ?_
  · intro j u hu
    match j, hu with
    | 0, hu => simp at hu; subst hu; simpa [Addr.add, iv] using hy
  · intro u hu
    have : u = iv y := by simpa using hu
    subst this
    rfl
  · intro v' w' h1 h2 _ _
    refine h v' w' ?_ (belowI_own hown hbase h2)
    unfold OwnI
    rw [List.length_append, List.map_append]
    exact h1
theorem take_nextI {l l' : List Int} {k : Nat} (h : k < l.length) (h' : k < l'.length) (ht : l.take k = l'.take k) (he : l[k] = l'[k]) : l.take (k + 1) = l'.take (k + 1) := by
  rw [List.take_succ_eq_append_getElem h, List.take_succ_eq_append_getElem h', ht, he]
set_option maxHeartbeats 1000000 in
theorem sameInts_any (A A' : Option Addr) (l l' : List Int) (c c' B B' : Nat) (w : World) (hb : Ints w B A l) (hb' : Ints w B' A' l') (hlen : l.length ≤ 140737488355328) (hlen' : l'.length ≤ 140737488355328) :
    Calls Try.prog 31 #[.slice A l.length c, .slice A' l'.length c'] w fun e w' => e = .returned (.bool (decide (l = l'))) ∧ ∃ m, w' = w.drewN m := by
  by_cases hll : l.length = l'.length
  · have hne : ((l.length : Int) != (l'.length : Int)) = false := by simp; omega
    have HLL := Lib.hid hll
    clear hll
    go_enter Try.func31, Try.ntmps31
    go_wp2
    go_loopw [5] (fun i wr => ∃ (k m : Nat), k ≤ l.length ∧ i = .int .i64 (k : Int) ∧ Hid (l.take k = l'.take k) ∧ wr = w.drewN m) (fun i _ => l.length - (intOf i).toNat)
    case atStart => exact ⟨0, 0, Nat.zero_le _, rfl, Lib.hid rfl, rfl⟩
    case round =>
      obtain ⟨k, m, hk, rfl, ht, rfl⟩ := hrel
      by_cases hl : k < l.length
      · have hl' : k < l'.length := by have := HLL.out; omega
        obtain ⟨b, off, rfl, _, hcs⟩ := hb (by omega)
        obtain ⟨b', off', rfl, _, hcs'⟩ := hb' (by omega)
        have hc1 := hcs k hl
        have hc2 := hcs' k hl'
        have hli : (k : Int) < (l.length : Int) := by omega
        have hli' : (k : Int) < (l'.length : Int) := by omega
        obtain ⟨x, hx⟩ : ∃ x, x = l[k] := ⟨_, rfl⟩
        obtain ⟨y, hy⟩ : ∃ y, y = l'[k] := ⟨_, rfl⟩
        rw [← hx] at hc1
        rw [← hy] at hc2
        have HX := Lib.hid hx
        have HY := Lib.hid hy
        clear hcs hcs' hb hb' hx hy
        by_cases hxy : x = y
        · subst hxy
          go_wp2
          go_quiet (fail)
          go_wp2
          go_roundw
          case rel => exact ⟨k + 1, _, by omega, by go_num, Lib.hid (take_nextI hl hl' ht.out (by rw [← HX.out, ← HY.out])), rfl⟩
          case measure => simp [intOf]; omega
        · have hxb : (x != y) = true := by simp; omega
          have HXY := Lib.hid hxy
          clear hxy
          go_wp2
          go_quiet (fail)
          go_wp2
          go_ret
          refine ⟨ret_bool (decide_eq_false fun h => HXY.out ?_).symm, _, World.drewN_drewN _ _ _⟩
          subst h
          rw [HX.out, HY.out]
      · have hli : ¬ (k : Int) < (l.length : Int) := by omega
        clear hb hb'
        go_wp2
        go_ret
        refine ⟨ret_bool (decide_eq_true ?_).symm, m, rfl⟩
        have h1 := ht.out
        have h2 := HLL.out
        rw [List.take_of_length_le (by omega), List.take_of_length_le (by omega)] at h1
        exact h1
  · have hne : ((l.length : Int) != (l'.length : Int)) = true := by simp; omega
    have HLL := Lib.hid hll
    clear hll
    go_enter Try.func31, Try.ntmps31
    go_wp2
    go_ret
    exact ⟨ret_bool (decide_eq_false fun h => HLL.out (by rw [h])).symm, 0, rfl⟩
end Go.Proofs.Ythhdbjpimjkekaa.Typ
