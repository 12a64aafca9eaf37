/-
  trammelref05.FuncBytes: the bytes of a function's type that may be put. Conditions: its two slices lead to ints; it may be put.
-/
import Derived.Test.YthhdbjpimjkekaaTypRight
namespace Go.Proofs.Ythhdbjpimjkekaa.Typ
open Go.RowKit Leb

/-- The bytes of a function's type. -/
def natsOf (xs : List Int) : List Nat := xs.length :: xs.map Int.toNat
def funcBytes (ps rs : List Int) : List Nat := 96 :: (natsOf ps ++ natsOf rs)
/-- What was there when the loop began is there, but for the block of the bytes; these lie in it, or in a new one. -/
structure Free (W wr : World) (g : Nat) (v : Value) : Prop where
  os : wr.os = W.os
  tape : wr.tape = W.tape
  output : wr.output = W.output
  size : W.heap.size ≤ wr.heap.size
  block : ∀ k, k < W.heap.size → k ≠ g → wr.heap[k]? = W.heap[k]?
  own : v.ownBlock = some g ∨ ∃ k, v.ownBlock = some k ∧ W.heap.size ≤ k
theorem Free.alloc {W wr : World} {g : Nat} {v : Value} (h : Free W wr g v) (o : Obj) : Free W (wr.alloc o) g v :=
  ⟨h.os, h.tape, h.output, by have := h.size; simp; omega, fun k hk hg => by rw [Below.heap_alloc _ _ _ (by have := h.size; omega)]; exact h.block k hk hg, h.own⟩
theorem Free.grown {W wr w' : World} {g : Nat} {v v' : Value} (h : Free W wr g v) (hg : wr.grownBy w' v.ownBlock) (ho : v'.ownBlock = v.ownBlock ∨ v'.ownBlock = some wr.heap.size) : Free W w' g v' := by
  refine ⟨hg.os.trans h.os, hg.tape.trans h.tape, hg.output.trans h.output, Nat.le_trans h.size hg.size, fun k hk hkg => ?_, ?_⟩
  · rw [hg.block k (Nat.lt_of_lt_of_le hk h.size) ?_]
    · exact h.block k hk hkg
    · intro e
      rcases h.own with h1 | ⟨k', h1, h2⟩
      · rw [h1] at e; injection e with e; exact hkg e
      · rw [h1] at e; injection e with e; omega
  · rcases ho with ho | ho
    · rw [ho]; exact h.own
    · exact .inr ⟨_, ho, h.size⟩
theorem Free.below {w W wr : World} {g : Nat} {v : Value} (h : Free W wr g v) (hb : Below w.heap.size w W) (hg : w.heap.size ≤ g) : Below w.heap.size w wr :=
  ⟨h.os.trans hb.os, h.tape.trans hb.tape, h.output.trans hb.output, Nat.le_trans hb.size h.size, fun k hk => (h.block k (Nat.lt_of_lt_of_le hk hb.size) (by omega)).trans (hb.block k hk)⟩
/-- 'append(s, x)', one byte: s is owned; what else there is stays. -/
theorem app_free {w : World} {ops : Array Oper} {rest : List Oper} {o : Oper} {a : Act} {Q : Exit → Act → World → Prop} (hgd : o.guard = none) (s x : Operand) (ho : o.op = .call { callee := .builtin .append, args := #[s, x], argTypes := #[22, 22] })
    (base : Nat) (v : Value) (l : List Nat) (hs : a.eval s = v) (hown : Own w base v l) (gx y : Nat) (hx : a.eval x = .slice (some ⟨gx, 0, none⟩) 1 1) (hy : w.cell? ⟨gx, 0, none⟩ = some (.int .u8 (y : Int)))
    (hlen : l.length ≤ 1000000) (hbase : base ≤ w.heap.size)
    (h : ∀ v' w', Own w' base v' (l ++ [y]) → w.grownBy w' v.ownBlock → (v'.ownBlock = v.ownBlock ∨ v'.ownBlock = some w.heap.size) → wpList Try.prog ops Q rest (a.put o.dst v') w') : wpList Try.prog ops Q (o :: rest) a w := by
  obtain ⟨i0, hi0, hz0, hz1, hz2⟩ := info_parts u8_info
  refine wpList_append_own_at w hgd s x _ ho base 5 i0 (.int .u8 0) 1 1 Try.underlying22 hi0 hz0 hz1 hz2 rfl (by omega) v l.length (l.map bv) hs hown ⟨gx, 0, none⟩ 1 1 [bv y] hx (by simp) ?_ ?_ (by simp only [maxLen]; omega) (by omega) hbase ?_
  · intro j u hu
    match j, hu with
    | 0, hu => simp at hu; subst hu; simpa [Addr.add, bv] using hy
  · intro u hu
    have : u = bv y := by simpa using hu
    subst this
    rfl
  · intro v' w' h1 h2 _ h4
    refine h v' w' ?_ h2 h4
    unfold Own
    rw [List.length_append, List.map_append]
    exact h1
theorem own_lit (w : World) (x : Nat) : Own (w.alloc (.cells #[.int .u8 (x : Int)] 5)) w.heap.size (.slice (some ⟨w.heap.size, 0, none⟩) 1 1) [x] :=
  World.ownsRow_lit w #[.int .u8 (x : Int)] 1 (Nat.le_refl _) (by simp [maxLen]) rfl
theorem own_from {w : World} {base base' : Nat} {v : Value} {l : List Nat} (h : Own w base v l) (hb : base' ≤ base) : Own w base' v l := by
  refine ⟨h.1, ?_⟩
  rcases h.2 with ⟨rfl, h0⟩ | ⟨g, cap, cur, rfl, h1, h2, h3, h4, h5⟩
  · exact .inl ⟨rfl, h0⟩
  · exact .inr ⟨g, cap, cur, rfl, Nat.le_trans hb h1, h2, h3, h4, h5⟩
/-- What stands ahead of list j. -/
def ahead (ps rs : List Int) (j : Nat) : List Nat := if j = 0 then [96] else if j = 1 then 96 :: natsOf ps else funcBytes ps rs
theorem ahead_next (ps rs : List Int) (j : Nat) (hj : j < 2) : ahead ps rs (j + 1) = ahead ps rs j ++ [(pick ps rs j).length] ++ (pick ps rs j).map Int.toNat := by
  match j, hj with
  | 0, _ => simp [ahead, pick, natsOf]
  | 1, _ => simp [ahead, pick, natsOf, funcBytes]
theorem ahead_len (ps rs : List Int) (j : Nat) (g1 : good ps) (g2 : good rs) : (ahead ps rs j).length ≤ 100 := by
  have := g1.1
  have := g2.1
  unfold ahead
  split
  · simp
  · split
    · simp [natsOf]; omega
    · simp [natsOf, funcBytes]; omega
/-- What FuncBytes has laid when its loop begins. -/
structure Laid (w W : World) (ps rs : List Int) : Prop where
  below : Below w.heap.size w W
  size : W.heap.size = w.heap.size + 3
  own : Own W w.heap.size (.slice (some ⟨w.heap.size + 1, 0, none⟩) 1 1) [96]
  cell : ∀ j, j < 2 → ∃ A c, W.cell? ⟨w.heap.size + 1 + 1, j, none⟩ = some (.slice A (pick ps rs j).length c) ∧ Ints w w.heap.size A (pick ps rs j)
theorem laid_of (w : World) (A A' : Option Addr) (c c' : Nat) (ps rs : List Int) (t t' : TypeId) (h1 : Ints w w.heap.size A ps) (h2 : Ints w w.heap.size A' rs) :
    Laid w (((w.alloc (.cells #[.slice A ps.length c, .slice A' rs.length c'] t)).alloc (.cells #[.int .u8 96] 5)).alloc (.cells #[.slice A ps.length c, .slice A' rs.length c'] t')) ps rs := by
  have hs1 : (w.alloc (.cells #[.slice A ps.length c, .slice A' rs.length c'] t)).heap.size = w.heap.size + 1 := by simp
  have hs2 : ((w.alloc (.cells #[.slice A ps.length c, .slice A' rs.length c'] t)).alloc (.cells #[.int .u8 96] 5)).heap.size = w.heap.size + 1 + 1 := by simp
  have hh := (MapKept.heap_alloc ((w.alloc (.cells #[.slice A ps.length c, .slice A' rs.length c'] t)).alloc (.cells #[.int .u8 96] 5)) (.cells #[.slice A ps.length c, .slice A' rs.length c'] t')).1
  rw [hs2] at hh
  refine ⟨(((Below.refl _ _).alloc (Nat.le_refl _) _).alloc (by simp) _).alloc (by simp; omega) _, by simp, ?_, fun j hj => ?_⟩
  · have := (own_lit (w.alloc (.cells #[.slice A ps.length c, .slice A' rs.length c'] t)) 96).alloc (.cells #[.slice A ps.length c, .slice A' rs.length c'] t')
    rw [hs1] at this
    exact own_from this (by omega)
  · match j, hj with
    | 0, _ => exact ⟨A, c, by simp only [World.cell?, hh]; rfl, h1⟩
    | 1, _ => exact ⟨A', c', by simp only [World.cell?, hh]; rfl, h2⟩
set_option maxHeartbeats 4000000 in
set_option maxRecDepth 100000 in
theorem funcBytes_any (A A' : Option Addr) (c c' : Nat) (ps rs : List Int) (w : World) (h1 : Ints w w.heap.size A ps) (h2 : Ints w w.heap.size A' rs) (g1 : good ps) (g2 : good rs) :
    Calls Try.prog 21 #[.agg #[.slice A ps.length c, .slice A' rs.length c']] w (Gives w (funcBytes ps rs)) := by
  have HLD := Lib.hid (laid_of w A A' c c' ps rs 26 24 h1 h2)
  have HGD : Hid (∀ j, good (pick ps rs j)) := Lib.hid fun j => by unfold pick; split <;> assumption
  have HLN := Lib.hid (fun j => ahead_len ps rs j g1 g2)
  clear h1 h2 g1 g2
  go_enter Try.func21, Try.ntmps21
  go_wp2
  generalize ((w.alloc _).alloc _).alloc _ = W at *
  have hsz0 := HLD.out.size
  go_loopw [3, 14] (fun v i wr => ∃ j : Nat, j ≤ 2 ∧ i = .int .i64 (j : Int) ∧ Own wr w.heap.size v (ahead ps rs j) ∧ Free W wr (w.heap.size + 1) v) (fun _ i _ => 2 - (intOf i).toNat)
  case atStart => exact ⟨0, by omega, rfl, HLD.out.own, ⟨rfl, rfl, rfl, Nat.le_refl _, fun _ _ _ => rfl, .inl rfl⟩⟩
  case round =>
    obtain ⟨j, hj, rfl, hown, hfree⟩ := hrel
    by_cases hlt : j < 2
    · have hlti : (j : Int) < 2 := by omega
      obtain ⟨A0, c0, hcell, hints⟩ := HLD.out.cell j hlt
      have hc1 : wr.cell? ⟨w.heap.size + 1 + 1, j, none⟩ = some (.slice A0 (pick ps rs j).length c0) := (World.cell?_of_block (hfree.block (w.heap.size + 1 + 1) (by omega) (by omega))).trans hcell
      have hgood := HGD.out j
      have HNX := Lib.hid (ahead_next ps rs j hlt)
      have hln := HLN.out j
      clear hcell
      generalize pick ps rs j = xs at *
      generalize ahead ps rs j = pre at *
      obtain ⟨m, hm⟩ : ∃ m, m = xs.length := ⟨_, rfl⟩
      have HM := Lib.hid hm
      rw [← hm] at hc1
      have hm8 : m ≤ 8 := by rw [hm]; exact hgood.1
      have HG := Lib.hid hgood.2
      have hs := hfree.size
      clear hm hgood
      have hmw : IntKind.u8.wrap (m : Int) = (m : Int) := IntWalk.u8_in _ (by omega)
      go_wp2_with (at_builtin; refine app_free rfl (.tmp 18) (.tmp 22) rfl w.heap.size _ pre rfl (hown.alloc _) wr.heap.size m rfl (by simp) (by omega) (by simp; omega) ?_; intro v2 w2 hown2 hg2 ho2)
      have hf2 := (hfree.alloc (.cells #[.int .u8 (m : Int)] 5)).grown hg2 ho2
      clear hown hfree hg2 ho2 hs hc1
      go_loopw [3, 6] (fun v i wq => ∃ k : Nat, k ≤ m ∧ i = .int .i64 (k : Int) ∧ Own wq w.heap.size v (pre ++ [m] ++ (xs.take k).map Int.toNat) ∧ Free W wq (w.heap.size + 1) v) (fun _ i _ => m - (intOf i).toNat)
      case atStart => exact ⟨0, Nat.zero_le _, rfl, by simpa using hown2, hf2⟩
      case round =>
        obtain ⟨k, hk, rfl, hown3, hf3⟩ := hrel
        clear hown2 hf2
        have hs3 := hf3.size
        by_cases hkm : k < m
        · have hkmi : (k : Int) < (m : Int) := by omega
          have hkx : k < xs.length := by rw [← HM.out]; exact hkm
          obtain ⟨b, off, rfl, hbl, hcs⟩ := (hints.below (hf3.below HLD.out.below (by omega))) (by omega)
          have hck := hcs k hkx
          have HT : Hid ((xs.take (k + 1)).map Int.toNat = (xs.take k).map Int.toNat ++ [xs[k].toNat]) := Lib.hid (by rw [List.take_succ_eq_append_getElem hkx, List.map_append]; rfl)
          have hy := HG.out _ (List.getElem_mem hkx)
          have hln3 : (pre ++ [m] ++ (xs.take k).map Int.toNat).length ≤ 1000 := by simp; omega
          clear hcs
          generalize xs[k] = y at *
          obtain ⟨z, rfl⟩ : ∃ z : Nat, y = (z : Int) := ⟨y.toNat, by omega⟩
          rw [Int.toNat_natCast] at HT
          have hzw : IntKind.u8.wrap (z : Int) = (z : Int) := IntWalk.u8_in _ (by omega)
          clear hy
          go_wp2_with (at_builtin; refine app_free rfl (.tmp 30) (.tmp 36) rfl w.heap.size _ (pre ++ [m] ++ (xs.take k).map Int.toNat) rfl (hown3.alloc _) wr.heap.size z rfl (by simp) (by omega) (by simp; omega) ?_; intro v4 w4 hown4 hg4 ho4)
          have hf4 := (hf3.alloc (.cells #[.int .u8 (z : Int)] 5)).grown hg4 ho4
          go_roundw
          case rel => exact ⟨k + 1, by omega, by go_num, by rw [HT.out, ← List.append_assoc]; exact hown4, hf4⟩
          case measure => simp [intOf]; omega
        · have hkmi : ¬ (k : Int) < (m : Int) := by omega
          obtain rfl : k = m := by omega
          rw [List.take_of_length_le (by rw [← HM.out]; exact Nat.le_refl _)] at hown3
          have HEQ : Hid (ahead ps rs (j + 1) = pre ++ [k] ++ xs.map Int.toNat) := Lib.hid (by rw [HNX.out, ← HM.out])
          clear hints
          go_wp2
          go_roundw
          case rel => exact ⟨j + 1, by omega, by go_num, by rw [HEQ.out]; exact hown3, hf3⟩
          case measure => simp [intOf]; omega
    · have hlti : ¬ (j : Int) < 2 := by omega
      obtain rfl : j = 2 := by omega
      have hbel := hfree.below HLD.out.below (by omega)
      clear hfree
      go_wp2
      go_ret
      exact ⟨_, rfl, hown, hbel⟩
end Go.Proofs.Ythhdbjpimjkekaa.Typ
