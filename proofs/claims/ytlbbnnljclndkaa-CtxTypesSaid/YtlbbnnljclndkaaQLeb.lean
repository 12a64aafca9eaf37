/-
  LebBase: Bytes in memory: what a slice leads to; how endings are told. No condition; nothing of the program but its name.
  LebBytes: Bytes in memory: what a slice of bytes that came in reads as; cut, and behind a call that changes nothing that was there. Conditions as each lemma says.
  LebOwn: Bytes that a call made itself: a slice value that owns them; append onto them from bytes in memory; how they read. Conditions as each lemma says.
  LebMath: Plain arithmetic of numbers in pieces of seven bits: what bytes are worth, how many lead, what is gathered. No condition; nothing of the program.
  LebRefMath: Plain arithmetic of the bits of bytes in pieces of seven, the lowest first, as the reference reads them. No condition but those that each lemma names; nothing of the program.
  LebRead: trammelref01.most, trammelref01.Read: what each comes to: how many bytes, and the bits, the lowest first. Conditions: the bytes lie in memory as a slice's cells.
  LebGather: leb.most, leb.inLast, leb.gather: what each comes to. Conditions: the bytes lie in memory as a slice's cells; the number of bits is from 1 to 64, or it is not.
  LebU: leb.U: what it comes to. Conditions: the bytes lie in memory as a slice's cells.
  LebPutMath: Plain arithmetic of what leb.PutU and leb.PutS put: how long it is, what it is worth, how it is read back. No condition but those that each lemma names; nothing of the program.
  LebBackU: Plain arithmetic: what leb.PutU puts is read back by leb.U. Conditions as each lemma says; nothing of the program runs.
  LebRefU: trammelref01.U comes to what leb.U comes to. Conditions: the bytes lie in memory as a slice's cells; the number of bits is from 1 to 64, or it is not.
  LebPut: leb.fresh, leb.PutU: what each comes to: new bytes, the given ones and, behind them, the number's. Condition: the given bytes lie in memory as a slice's cells, and are fewer than 2^46.
  LebPutS: leb.PutS: what it comes to: new bytes, the given ones and, behind them, the number's. Condition: the given bytes lie in memory as a slice's cells, and are fewer than 2^46.
  LebRefPut: trammelref01.Copy, Same, PutU: what each comes to. Conditions: the given bytes lie in memory as a slice's cells, and are fewer than 2^46.
  LebS: leb.carriesSign, leb.extend, leb.S: what each comes to. Conditions: the bytes lie in memory as a slice's cells.
  LebBackMath: Plain arithmetic: what leb.PutU and leb.PutS put is read back by leb.U and leb.S, and nothing shorter is read as the same. Conditions as each lemma says; nothing of the program runs.
  LebSignMath: Plain arithmetic of the sign: what the reference's bits come to, signed, is what leb.S's extend comes to; its test of the bits beyond is leb.S's. Conditions as each lemma says; nothing of the program runs.
  LebRefS: trammelref01.S comes to what leb.S comes to. Conditions: the bytes lie in memory as a slice's cells; the number of bits is from 1 to 64, or it is not.
  LebRefPutS: trammelref01.PutS comes to what leb.PutS puts: the fewest bytes that are read as the number. No condition but that the number has 64 bits.
  LebSame: trammelref01.Same: it tells whether two lists of bytes are the same. Conditions: both lie in memory as a slice's cells, and are fewer than 2^47.
  LebAwake: trammellaw01.awake: it answers true, and changes nothing that was there. No condition.
  LebLengthLaw: trammellaw01.LebLength answers true for every two unsigned numbers and every signed one of 64 bits. No other condition.
-/
import Derived.Test.YtlbbnnljclndkaaChecked
import Derived.WalkKit
import Derived.Below
import Derived.Lib.Hide
import Derived.Outline
import Derived.IntWalk
import Derived.Deep.QuietTactic
import Derived.BigQuiet
import Derived.Deep.Draws
import Derived.OpenShut
import Derived.Maps.AppendAt
import Derived.Laws.AppendOwnNone
import Derived.Laws.OwnMore
import Derived.OwnWalk
import Derived.Laws.BitsAllLaws
namespace Go.Proofs.Ytlbbnnljclndkaa.Leb
open Go.RowKit

/-- Bytes that a slice leads to: each a cell of its own, in a block below B. -/
def Bytes (w : World) (B : Nat) (A : Option Addr) (l : List Nat) : Prop :=
  (∀ x ∈ l, x < 256) ∧ (0 < l.length → ∃ b off, A = some ⟨b, off, none⟩ ∧ b < B ∧ ∀ (j : Nat) (h : j < l.length), w.cell? ⟨b, off + j, none⟩ = some (.int .u8 (l[j] : Nat)))

theorem ret_int {k : IntKind} {a b : Int} (h : a = b) : Ending.returned (.int k a) = .returned (.int k b) := by rw [h]
theorem ret_3 {k k2 k3 : IntKind} {a b c d x y : Int} (h : a = b) (h2 : c = d) (h3 : x = y) : Ending.returned (.tuple #[.int k a, .int k2 c, .int k3 x]) = .returned (.tuple #[.int k b, .int k2 d, .int k3 y]) := by rw [h, h2, h3]
theorem same_of {P : Program} {f : FuncId} {args : Array Value} {w : World} {v : Value} (h : Calls P f args w fun e w' => e = .returned v ∧ w = w') :
    Calls P f args w fun e w' => e = .returned v ∧ w' = w := h.mono fun _ _ ⟨a, b⟩ => ⟨a, b.symm⟩

theorem ret_bool {a b : Bool} (h : a = b) : Ending.returned (.bool a) = .returned (.bool b) := by rw [h]
theorem bytes_at {w : World} {B : Nat} {A : Option Addr} {l : List Nat} (hb : Bytes w B A l) {s : Nat} (h1 : 1 ≤ s) (hl : s ≤ l.length) :
    ∃ b off, A = some ⟨b, off, none⟩ ∧ w.cell? ⟨b, off + (s - 1), none⟩ = some (.int .u8 ((l.getD (s - 1) 0 : Nat) : Int)) ∧ l.getD (s - 1) 0 < 256 := by
  obtain ⟨b, off, rfl, _, hcs⟩ := hb.2 (by omega)
  have hc := hcs (s - 1) (by omega)
  have e : l.getD (s - 1) 0 = l[s - 1]'(by omega) := by simp [List.getD, List.getElem?_eq_getElem (show s - 1 < l.length by omega)]
  rw [e]
  exact ⟨b, off, rfl, hc, hb.1 _ (List.getElem_mem _)⟩
end Go.Proofs.Ytlbbnnljclndkaa.Leb
namespace Go.Proofs.Ytlbbnnljclndkaa.Leb
open Go.RowKit

theorem below_drewN {B : Nat} {a w : World} (h : Below B a w) (n : Nat) : Below B a (w.drewN n) := ⟨h.os, h.tape, h.output, h.size, h.block⟩

/-- A slice of integers that came in: nil, or a row of 'cap' cells 'zs', each fitting its kind. -/
def RowIn (k : IntKind) (w : World) (a : Option Addr) (len cap : Nat) (zs : List Int) : Prop :=
  (a = none ∧ len = 0 ∧ cap = 0 ∧ zs = []) ∨
  ∃ x, a = some x ∧ len ≤ cap ∧ cap ≤ maxLen ∧ zs.length = cap ∧ (∀ i, i < zs.length → w.cell? (x.add i) = some (.int k (zs.getD i 0))) ∧ ∀ n ∈ zs, (Lit.int k n).wf = true

theorem bytes_of_row {w : World} {a : Option Addr} {len cap : Nat} {zs : List Int} (h : RowIn .u8 w a len cap zs) :
    ∃ l : List Nat, l.length = len ∧ Bytes w w.heap.size a l ∧ len ≤ cap ∧ cap ≤ maxLen := by
  rcases h with ⟨rfl, rfl, rfl, rfl⟩ | ⟨x, rfl, hl, hm, hz, hcell, hwf⟩
  · exact ⟨[], rfl, ⟨by simp, by simp⟩, Nat.le_refl _, by simp [maxLen]⟩
  · have hb : ∀ n ∈ zs, 0 ≤ n ∧ n ≤ 255 := by
      intro n hn
      have := bounds_u8 (hwf n hn)
      omega
    refine ⟨(zs.take len).map Int.toNat, by simp; omega, ⟨?_, ?_⟩, hl, hm⟩
    · intro y hy
      obtain ⟨n, hn, rfl⟩ := List.mem_map.1 hy
      have := hb n (List.mem_of_mem_take hn)
      omega
    · intro hlen
      have hlen' : 0 < len := by simp at hlen; omega
      have h0 := hcell 0 (by omega)
      obtain ⟨b, off, spot⟩ := x
      have hspot : spot = none := by simpa [Addr.add] using World.cell?_spot h0
      subst hspot
      have hblk : b < w.heap.size := by
        have := World.block_lt_of_cell? w _ h0
        simpa [Addr.add] using this
      refine ⟨b, off, rfl, hblk, ?_⟩
      intro j hj
      have hj' : j < len ∧ j < zs.length := by simp at hj; omega
      have hc := hcell j hj'.2
      have hn := hb _ (List.getElem_mem hj'.2)
      have e1 : zs.getD j 0 = zs[j] := by simp [List.getD, List.getElem?_eq_getElem hj'.2]
      rw [e1] at hc
      have e2 : ((((zs.take len).map Int.toNat)[j] : Nat) : Int) = zs[j] := by simp; omega
      rw [e2]
      by_cases h0 : j = 0
      · subst h0; simpa [Addr.add] using hc
      · simpa [Addr.add, h0] using hc
theorem row_nil {k : IntKind} {w : World} {a : Option Addr} {len cap : Nat} {zs : List Int} (h : RowIn k w a len cap zs) : a = none → cap = 0 := by
  rcases h with ⟨_, _, h, _⟩ | ⟨x, rfl, _⟩
  · exact fun _ => h
  · intro h; cases h
theorem Bytes.take {w : World} {B : Nat} {A : Option Addr} {l : List Nat} (h : Bytes w B A l) (k : Nat) : Bytes w B A (l.take k) := by
  refine ⟨fun x hx => h.1 x (List.mem_of_mem_take hx), fun hl => ?_⟩
  have hl' : 0 < l.length := by simp at hl; omega
  obtain ⟨b, off, e, hb, hc⟩ := h.2 hl'
  refine ⟨b, off, e, hb, fun j hj => ?_⟩
  have hj' : j < l.length := by simp at hj; omega
  rw [hc j hj']
  simp
theorem Bytes.below {w w' : World} {B : Nat} {A : Option Addr} {l : List Nat} (h : Bytes w B A l) (hb : Below B w w') : Bytes w' B A l := by
  refine ⟨h.1, fun hl => ?_⟩
  obtain ⟨b, off, e, hB, hc⟩ := h.2 hl
  exact ⟨b, off, e, hB, fun j hj => (hb.cell hB).trans (hc j hj)⟩
theorem Bytes.drewN {w : World} {B : Nat} {A : Option Addr} {l : List Nat} (h : Bytes w B A l) (n : Nat) : Bytes (w.drewN n) B A l := h
theorem Bytes.more {w : World} {B B' : Nat} {A : Option Addr} {l : List Nat} (h : Bytes w B A l) (hB : B ≤ B') : Bytes w B' A l :=
  ⟨h.1, fun hl => by
    obtain ⟨b, off, e, hb, hc⟩ := h.2 hl
    exact ⟨b, off, e, by omega, hc⟩⟩
end Go.Proofs.Ytlbbnnljclndkaa.Leb
namespace Go.Proofs.Ytlbbnnljclndkaa.Leb
open Go.RowKit

def bv (x : Nat) : Value := .int .u8 (x : Int)
theorem u8_info : (Try.prog.info? 5).map (fun i => (i.zero, i.size, i.bytes)) = some (some (.int .u8 0), 1, 1) := by kernel_rfl
/-- The slice value v owns the bytes l, in a block from 'base' on. -/
def Own (w : World) (base : Nat) (v : Value) (l : List Nat) : Prop := w.ownsRow base 5 1 v l.length (l.map bv)
theorem Own.alloc {w : World} {base : Nat} {v : Value} {l : List Nat} (h : Own w base v l) (o : Obj) : Own (w.alloc o) base v l := World.ownsRow.alloc h o
theorem Own.drewN {w : World} {base : Nat} {v : Value} {l : List Nat} (h : Own w base v l) (n : Nat) : Own (w.drewN n) base v l := h
theorem Own.nil (w : World) (base : Nat) : Own w base (.slice none 0 0) [] := World.ownsRow_nil _ _ _ _
theorem Own.keep {w w' : World} {base B : Nat} {v : Value} {l : List Nat} (h : Own w base v l) (hb : Below B w w') (hB : ∀ k, v.ownBlock = some k → k < B) : Own w' base v l := by
  refine ⟨h.1, ?_⟩
  rcases h.2 with ⟨rfl, h0⟩ | ⟨g, cap, cur, rfl, h1, h2, h3, h4, h5⟩
  · exact .inl ⟨rfl, h0⟩
  · exact .inr ⟨g, cap, cur, rfl, h1, (hb.block g (hB g rfl)).trans h2, h3, h4, h5⟩
theorem Own.lt {w : World} {base : Nat} {v : Value} {l : List Nat} (h : Own w base v l) : ∀ k, v.ownBlock = some k → k < w.heap.size := fun k hk => (World.ownsRow.lt h k hk).2
/-- What is owned, as a slice that leads to bytes. -/
theorem Own.bytes {w : World} {base : Nat} {v : Value} {l : List Nat} (h : Own w base v l) (hl : ∀ x ∈ l, x < 256) :
    ∃ A cap, v = .slice A l.length cap ∧ Bytes w w.heap.size A l ∧ l.length ≤ cap ∧ (A = none → cap = 0) := by
  have hlt := h.lt
  rcases h.2 with ⟨rfl, h0⟩ | ⟨g, cap, cur, rfl, h1, h2, h3, h4, h5⟩
  · refine ⟨none, 0, by rw [h0], ⟨hl, fun h => by omega⟩, by omega, fun _ => rfl⟩
  · refine ⟨some ⟨g, 0, none⟩, cap, rfl, ⟨hl, fun _ => ⟨g, 0, rfl, hlt g rfl, fun j hj => ?_⟩⟩, h3, fun h => by cases h⟩
    have hc := World.ownsRow.cellAt h j (by omega)
    rw [Nat.zero_add, hc]
    simp [bv, hj]
theorem bv_oneCell (l : List Nat) : ∀ u ∈ l.map bv, u.oneCell' = true := by
  intro u hu
  obtain ⟨x, _, rfl⟩ := List.mem_map.1 hu
  rfl
theorem below_own {w w' : World} {base : Nat} {v : Value} {l : List Nat} (h : Own w base v l) (hb : base ≤ w.heap.size) (hg : w.grownBy w' v.ownBlock) : Below base w w' :=
  (Below.refl _ _).grown hg hb (fun k hk => (World.ownsRow.lt h k hk).1)
section
variable {w : World} {ops : Array Oper} {rest : List Oper} {o : Oper} {a : Act} {Q : Exit → Act → World → Prop}
set_option maxRecDepth 100000 in
/-- 'append(s, x...)': s is owned, x leads to bytes (or is nil). -/
theorem app_bytes (hgd : o.guard = none) (s x : Operand) (ho : o.op = .call { callee := .builtin .append, args := #[s, x], argTypes := #[50, 50] })
    (base : Nat) (v : Value) (l : List Nat) (hs : a.eval s = v) (hown : Own w base v l) (A : Option Addr) (l' : List Nat) (c B : Nat) (hx : a.eval x = .slice A l'.length c) (hr : Bytes w B A l') (hc : A = none → c = 0)
    (hlen : l.length + l'.length ≤ 140737488355328) (hbase : base ≤ w.heap.size)
    (h : ∀ v' w', Own w' base v' (l ++ l') → Below base w w' → wpList Try.prog ops Q rest (a.put o.dst v') w') : wpList Try.prog ops Q (o :: rest) a w := by
  obtain ⟨i0, hi0, hz0, hz1, hz2⟩ := info_parts u8_info
  cases A with
  | none =>
    have hl0 : l' = [] := by
      rcases Nat.eq_zero_or_pos l'.length with h0 | h0
      · exact List.eq_nil_of_length_eq_zero h0
      · obtain ⟨b, off, he, _⟩ := hr.2 h0
        cases he
    subst hl0
    have hc0 := hc rfl
    subst hc0
    exact wpList_append_own_none hgd s x _ ho base 5 i0 1 Try.underlying50 hi0 v l.length (l.map bv) hs hown hx (h v w (by rw [List.append_nil]; exact hown) (Below.refl _ _))
  | some ad =>
    refine wpList_append_own_at w hgd s x _ ho base 5 i0 (.int .u8 0) 1 1 Try.underlying50 hi0 hz0 hz1 hz2 rfl (by omega) v l.length (l.map bv) hs hown ad l'.length c (l'.map bv) hx (by simp) ?_ (bv_oneCell l') (by simp only [maxLen]; omega) (by omega) hbase ?_
    · intro j u hu
      have hj : j < l'.length := by
        rcases Nat.lt_or_ge j l'.length with hj | hj
        · exact hj
        · rw [List.getElem?_eq_none (by simpa using hj)] at hu; cases hu
      obtain ⟨b, off, he, _, hcell⟩ := hr.2 (by omega)
      injection he with he
      subst he
      have := hcell j hj
      rw [List.getElem?_map, List.getElem?_eq_getElem hj] at hu
      simp at hu
      subst hu
      by_cases h0 : j = 0
      · subst h0; simpa [Addr.add, bv] using this
      · simpa [Addr.add, h0, bv] using this
    · intro v' w' h1 h2 _ _
      refine h v' w' ?_ (below_own hown hbase h2)
      unfold Own
      rw [List.length_append, List.map_append]
      exact h1
set_option maxRecDepth 100000 in
/-- The same at an operation that a guard lets by, the source not nil, the new value told as a slice. -/
theorem app_guarded (hwant : Region.wanted o (yielded ops a.tmps) = true) (s x : Operand) (ho : o.op = .call { callee := .builtin .append, args := #[s, x], argTypes := #[50, 50] })
    (base : Nat) (v : Value) (l : List Nat) (hs : a.eval s = v) (hown : Own w base v l) (hb : ∀ y ∈ l, y < 256) (A : Option Addr) (l' : List Nat) (m c B k : Nat) (hm : l'.length = m) (hx : a.eval x = .slice A m c) (hr : Bytes w B A l') (h0 : 0 < m)
    (hk : (l ++ l').length = k) (hlen : k ≤ 140737488355328) (hbase : base ≤ w.heap.size)
    (h : ∀ A' c' w', Own w' base (.slice A' k c') (l ++ l') → Bytes w' w'.heap.size A' (l ++ l') → k ≤ c' → (A' = none → c' = 0) → Below base w w' → wpList Try.prog ops Q rest (a.put o.dst (.slice A' k c')) w') : wpList Try.prog ops Q (o :: rest) a w := by
  obtain ⟨i0, hi0, hz0, hz1, hz2⟩ := info_parts u8_info
  subst hm
  have hlen' : l.length + l'.length ≤ 140737488355328 := by simp at hk; omega
  obtain ⟨b, off, rfl, _, hcell⟩ := hr.2 h0
  refine wpList_step fun K hK => ?_
  rw [if_pos hwant]
  refine wp_append_own w s x _ ho base 5 i0 (.int .u8 0) 1 1 Try.underlying50 hi0 hz0 hz1 hz2 rfl (by omega) v l.length (l.map bv) hs hown ⟨b, off, none⟩ l'.length c (l'.map bv) hx (by simp) ?_ (bv_oneCell l') (by simp only [maxLen]; omega) (by omega) hbase ?_
  · intro j u hu
    have hj : j < l'.length := by
      rcases Nat.lt_or_ge j l'.length with hj | hj
      · exact hj
      · rw [List.getElem?_eq_none (by simpa using hj)] at hu; cases hu
    have := hcell j hj
    rw [List.getElem?_map, List.getElem?_eq_getElem hj] at hu
    simp at hu
    subst hu
    by_cases h0 : j = 0
    · subst h0; simpa [Addr.add, bv] using this
    · simpa [Addr.add, h0, bv] using this
  · intro v' w' h1 h2 _
    have ho' : Own w' base v' (l ++ l') := by
      unfold Own
      rw [List.length_append, List.map_append]
      exact h1
    subst hk
    obtain ⟨A', c', hv, h3, h4, h5⟩ := ho'.bytes (fun y hy => (List.mem_append.1 hy).elim (hb y) (hr.1 y))
    subst hv
    exact hK _ _ (h A' c' w' ho' h3 h4 h5 (below_own hown hbase h2))
set_option maxRecDepth 100000 in
/-- The same, the new value told as a slice. -/
theorem app_slice (hgd : o.guard = none) (s x : Operand) (ho : o.op = .call { callee := .builtin .append, args := #[s, x], argTypes := #[50, 50] })
    (base : Nat) (v : Value) (l : List Nat) (hs : a.eval s = v) (hown : Own w base v l) (hb : ∀ y ∈ l, y < 256) (A : Option Addr) (l' : List Nat) (m c B k : Nat) (hm : l'.length = m) (hx : a.eval x = .slice A m c) (hr : Bytes w B A l') (hc : A = none → c = 0)
    (hk : (l ++ l').length = k) (hlen : k ≤ 140737488355328) (hbase : base ≤ w.heap.size)
    (h : ∀ A' c' w', Own w' base (.slice A' k c') (l ++ l') → Bytes w' w'.heap.size A' (l ++ l') → k ≤ c' → (A' = none → c' = 0) → Below base w w' → wpList Try.prog ops Q rest (a.put o.dst (.slice A' k c')) w') : wpList Try.prog ops Q (o :: rest) a w := by
  subst hm
  refine app_bytes hgd s x ho base v l hs hown A l' c B hx hr hc (by simp at hk; omega) hbase ?_
  intro v' w' h1 h2
  subst hk
  obtain ⟨A', c', hv, h3, h4, h5⟩ := h1.bytes (fun y hy => (List.mem_append.1 hy).elim (hb y) (hr.1 y))
  subst hv
  exact h A' c' w' h1 h3 h4 h5 h2
end
theorem bytes_one (w : World) (x : Nat) (hx : x < 256) (t : TypeId) : Bytes (w.alloc (.cells #[.int .u8 (x : Int)] t)) (w.heap.size + 1) (some ⟨w.heap.size, 0, none⟩) [x] := by
  refine ⟨by simpa using hx, fun _ => ⟨w.heap.size, 0, rfl, by omega, fun j hj => ?_⟩⟩
  have h0 : j = 0 := by simpa using hj
  subst h0
  simp
/-- A call returns a slice that owns the bytes l, and changes nothing that was there. -/
def Gives (w : World) (l : List Nat) (e : Ending) (w' : World) : Prop := ∃ v, e = .returned v ∧ Own w' w.heap.size v l ∧ Below w.heap.size w w'
/-- The same, told as a slice: where it leads to, how long it is. -/
def GivesB (w : World) (l : List Nat) (k : Nat) (e : Ending) (w' : World) : Prop :=
  ∃ A c, e = .returned (.slice A k c) ∧ Own w' w.heap.size (.slice A k c) l ∧ Bytes w' w'.heap.size A l ∧ (A = none → c = 0) ∧ k ≤ c ∧ Below w.heap.size w w'
theorem gives_b {P : Program} {f : FuncId} {args : Array Value} {w : World} {l : List Nat} {k : Nat} (h : Calls P f args w (Gives w l)) (hl : ∀ x ∈ l, x < 256) (hk : l.length = k) : Calls P f args w (GivesB w l k) := by
  refine h.mono ?_
  rintro e w' ⟨v, rfl, hown, hbel⟩
  subst hk
  obtain ⟨A, c, rfl, hb, hc, h0⟩ := hown.bytes hl
  exact ⟨A, c, rfl, hown, hb, h0, hc, hbel⟩
theorem bytes_nil (w : World) : Bytes w w.heap.size none [] := ⟨by simp, by simp⟩
end Go.Proofs.Ytlbbnnljclndkaa.Leb
namespace Go.Proofs.Ytlbbnnljclndkaa.Leb

/-- What bytes are worth, seven bits each, the lowest first. -/
def val : List Nat → Nat
  | [] => 0
  | x :: l => x % 128 + 128 * val l
/-- How many bytes have their highest bit set, from the first on. -/
def lead : List Nat → Nat
  | [] => 0
  | x :: l => if 128 ≤ x then lead l + 1 else 0
def most (bits : Nat) : Nat := (bits + 6) / 7

theorem val_snoc (l : List Nat) (x : Nat) : val (l ++ [x]) = val l + x % 128 * 128 ^ l.length := by
  induction l with
  | nil => simp [val]
  | cons y l ih =>
    simp only [List.cons_append, val, ih, List.length_cons, Nat.pow_succ, Nat.mul_add]
    have : 128 * (x % 128 * 128 ^ l.length) = x % 128 * (128 ^ l.length * 128) := by
      rw [Nat.mul_comm 128, Nat.mul_assoc]
    omega
theorem val_lt (l : List Nat) : val l < 128 ^ l.length := by
  induction l with
  | nil => simp [val]
  | cons y l ih => simp only [val, List.length_cons, Nat.pow_succ]; omega
theorem lead_le (l : List Nat) : lead l ≤ l.length := by
  induction l with
  | nil => simp [lead]
  | cons y l ih => simp only [lead, List.length_cons]; split <;> omega
/-- Bytes that lead are so many at least, where the first k do. -/
theorem lead_step (l : List Nat) (k : Nat) (hk : k < l.length) (h : k ≤ lead l) : (128 ≤ l[k] → k + 1 ≤ lead l) ∧ (l[k] < 128 → lead l = k) := by
  induction l generalizing k with
  | nil => simp at hk
  | cons y l ih =>
    cases k with
    | zero =>
      simp only [List.getElem_cons_zero, lead]
      constructor
      · intro hy; rw [if_pos hy]; omega
      · intro hy; rw [if_neg (by omega)]
    | succ k =>
      simp only [lead] at h ⊢
      split at h
      · rename_i hy
        have := ih k (by simpa using hk) (by omega)
        simp only [List.getElem_cons_succ]
        rw [if_pos hy]
        exact ⟨fun a => by have := this.1 a; omega, fun a => by have := this.2 a; omega⟩
      · omega
theorem lead_ge (l : List Nat) (k : Nat) (hk : k < l.length) (h : k < lead l) : 128 ≤ l[k] := by
  rcases Nat.lt_or_ge l[k] 128 with hx | hx
  · have := (lead_step l k hk (by omega)).2 hx; omega
  · exact hx
theorem lead_lt (l : List Nat) (h : lead l < l.length) : l[lead l] < 128 := by
  rcases Nat.lt_or_ge (l[lead l]) 128 with hx | hx
  · exact hx
  · have := (lead_step l (lead l) h (Nat.le_refl _)).1 hx; omega
theorem pow7 (k : Nat) : 128 ^ k = 2 ^ (7 * k) := by rw [Nat.pow_mul]
theorem take_snoc (l : List Nat) (k : Nat) (h : k < l.length) : l.take (k + 1) = l.take k ++ [l[k]] := List.take_succ_eq_append_getElem h
theorem val_take (l : List Nat) (k : Nat) (h : k < l.length) : val (l.take (k + 1)) = val (l.take k) + l[k] % 128 * 2 ^ (7 * k) := by
  rw [take_snoc l k h, val_snoc, ← pow7]
  simp [Nat.min_eq_left (Nat.le_of_lt h)]
theorem val_take_lt (l : List Nat) (k : Nat) : val (l.take k) < 2 ^ (7 * k) := by
  refine Nat.lt_of_lt_of_le (val_lt _) ?_
  rw [pow7]
  exact Nat.pow_le_pow_right (by omega) (by have : (l.take k).length ≤ k := List.length_take_le _ _; omega)

theorem mask7 (x : Nat) (hx : x < 256) : bits .and .u8 (x : Int) 127 = ((x % 128 : Nat) : Int) := by
  have := u8_and_nat x 127 hx (by omega)
  rw [nat_mask7] at this
  exact this
theorem mask80 (x : Nat) (hx : x < 256) : bits .and .u8 (x : Int) 128 = ((x / 128 * 128 : Nat) : Int) := by
  have := u8_and_nat x 128 hx (by omega)
  rw [show (128 : Nat) = 2 ^ 7 from rfl, nat_bit 7 x] at this
  rw [show ((x / 128 * 128 : Nat) : Int) = ((x / 2 ^ 7 % 2 * 2 ^ 7 : Nat) : Int) from by omega]
  exact this
def big : Nat := 18446744073709551616
/-- One round of the gathering: a piece more, joined by 'or', cut to 64 bits. -/
theorem join_step (l : List Nat) (k : Nat) (hk : k < l.length) (hm : k < 10) :
    bits .or .u64 ((val (l.take k) : Nat) : Int) (IntKind.u64.wrap (((l[k] % 128 : Nat) : Int) * 2 ^ (7 * k))) = ((val (l.take (k + 1)) % big : Nat) : Int) := by
  have h1 := val_take_lt l k
  have hw : IntKind.u64.wrap (((l[k] % 128 : Nat) : Int) * 2 ^ (7 * k)) = ((l[k] % 128 * 2 ^ (7 * k) % 18446744073709551616 : Nat) : Int) := by
    rw [IntKind.wrap_u64]
    simp
  have hp : (2 : Nat) ^ (7 * k) ≤ 2 ^ 63 := Nat.pow_le_pow_right (by omega) (by omega)
  have hd : 18446744073709551616 = 2 ^ (7 * k) * 2 ^ (64 - 7 * k) := by rw [← Nat.pow_add]; rw [show 7 * k + (64 - 7 * k) = 64 from by omega]
  have hz : l[k] % 128 * 2 ^ (7 * k) % 18446744073709551616 = l[k] % 128 % 2 ^ (64 - 7 * k) * 2 ^ (7 * k) := by
    rw [hd, Nat.mul_comm (l[k] % 128), Nat.mul_mod_mul_left, Nat.mul_comm]
  rw [hw, u64_or_nat _ _ (by omega) (Nat.mod_lt _ (by omega)), Nat.or_comm, nat_join (7 * k) _ _ (by rw [hz]; exact Nat.mul_mod_left _ _) h1, val_take l k hk]
  have hlt : val (l.take k) + l[k] % 128 % 2 ^ (64 - 7 * k) * 2 ^ (7 * k) < 18446744073709551616 := by
    have h2 : l[k] % 128 % 2 ^ (64 - 7 * k) < 2 ^ (64 - 7 * k) := Nat.mod_lt _ (Nat.pow_pos (by omega))
    have h3 : (l[k] % 128 % 2 ^ (64 - 7 * k) + 1) * 2 ^ (7 * k) ≤ 2 ^ (64 - 7 * k) * 2 ^ (7 * k) := Nat.mul_le_mul_right _ h2
    rw [Nat.mul_comm (2 ^ (64 - 7 * k)), ← hd, Nat.add_mul] at h3
    omega
  unfold big
  congr 1
  rw [Nat.add_mod, hz, Nat.mod_eq_of_lt (a := val (l.take k)) (by omega)]
  rw [Nat.mod_eq_of_lt (a := _ + _) (by omega)]
  omega
/-- What the first k bytes are worth, cut to 64 bits. -/
def gv (l : List Nat) (k : Nat) : Nat := val (l.take k) % big
theorem join_gv (l : List Nat) (k : Nat) (hk : k < l.length) (hm : k < 10) :
    bits .or .u64 ((gv l k : Nat) : Int) (IntKind.u64.wrap (((l[k] % 128 : Nat) : Int) * 2 ^ (7 * k))) = ((gv l (k + 1) : Nat) : Int) := by
  have h1 := val_take_lt l k
  have hp : (2 : Nat) ^ (7 * k) ≤ 2 ^ 63 := Nat.pow_le_pow_right (by omega) (by omega)
  have h2 : gv l k = val (l.take k) := Nat.mod_eq_of_lt (by unfold big; omega)
  rw [h2]
  exact join_step l k hk hm
theorem join_x (l : List Nat) (k x : Nat) (hk : k < l.length) (hm : k < 10) (hx : x = l[k]) :
    bits .or .u64 ((gv l k : Nat) : Int) (IntKind.u64.wrap ((x : Int) % 128 * 2 ^ (k * 7))) = ((gv l (k + 1) : Nat) : Int) := by
  subst hx
  rw [← join_gv l k hk hm, Nat.mul_comm]
  rfl
theorem more_no (x : Nat) (hx : x < 128) : (bits .and .u8 (x : Int) 128 == 0) = true := by
  rw [mask80 x (by omega), show x / 128 * 128 = 0 from by omega]; rfl
theorem more_yes (x : Nat) (hx : 128 ≤ x) (h : x < 256) : (bits .and .u8 (x : Int) 128 == 0) = false := by
  rw [mask80 x h, show x / 128 * 128 = 128 from by omega]; rfl
end Go.Proofs.Ytlbbnnljclndkaa.Leb
namespace Go.Proofs.Ytlbbnnljclndkaa.Leb

/-- The bit of V at place i. -/
def bitAt (V i : Nat) : Bool := V / 2 ^ i % 2 == 1
theorem bitAt_low (a y k i : Nat) (h : i < k) : bitAt (a + y * 2 ^ k) i = bitAt a i := by
  unfold bitAt
  congr 1
  have e : y * 2 ^ k = 2 ^ i * (2 * (y * 2 ^ (k - i - 1))) := by
    have : 2 ^ k = 2 ^ i * (2 * 2 ^ (k - i - 1)) := by
      rw [← Nat.pow_succ', ← Nat.pow_add]
      congr 1; omega
    rw [this, Nat.mul_left_comm, Nat.mul_left_comm y 2]
  rw [e, Nat.add_mul_div_left _ _ (Nat.pow_pos (by omega)), Nat.add_mul_mod_self_left]
theorem bitAt_high (a y k j : Nat) (h : a < 2 ^ k) : bitAt (a + y * 2 ^ k) (k + j) = bitAt y j := by
  unfold bitAt
  congr 2
  rw [Nat.pow_add, ← Nat.div_div_eq_div_mul, Nat.mul_comm y, Nat.add_mul_div_left _ _ (Nat.pow_pos (by omega)), Nat.div_eq_of_lt h, Nat.zero_add]
theorem bitAt_mod (x j : Nat) (h : j < 7) : bitAt (x % 128) j = bitAt x j := by
  have hx := Nat.mod_add_div x 128
  have := bitAt_low (x % 128) (x / 128) 7 j h
  rw [show x % 128 + x / 128 * 2 ^ 7 = x from by omega] at this
  exact this.symm
/-- The bit that the reference adds: of the k-th byte at place j. -/
theorem bitAt_val (l : List Nat) (k j : Nat) (hk : k < l.length) (hj : j < 7) : bitAt (val (l.take (k + 1))) (7 * k + j) = (l[k] / 2 ^ j % 2 == 1) := by
  rw [val_take l k hk, bitAt_high _ _ _ _ (val_take_lt l k), bitAt_mod _ _ hj]
  rfl
theorem bitAt_val_low (l : List Nat) (k i : Nat) (hk : k < l.length) (hi : i < 7 * k) : bitAt (val (l.take (k + 1))) i = bitAt (val (l.take k)) i := by
  rw [val_take l k hk, bitAt_low _ _ _ _ hi]
/-- The first n bits of V. -/
def bitList (V n : Nat) : List Bool := (List.range n).map (bitAt V)
theorem bitList_len (V n : Nat) : (bitList V n).length = n := by simp [bitList]
theorem bitList_snoc (V n : Nat) : bitList V (n + 1) = bitList V n ++ [bitAt V n] := by simp [bitList, List.range_succ]
theorem bitList_get (V n i : Nat) (h : i < n) : (bitList V n)[i]? = some (bitAt V i) := by simp [bitList, h]
theorem bitList_congr (V V' n : Nat) (h : ∀ i, i < n → bitAt V i = bitAt V' i) : bitList V n = bitList V' n := by
  unfold bitList
  apply List.map_congr_left
  intro i hi
  exact h i (by simpa using hi)
theorem bitList_next (l : List Nat) (k : Nat) (hk : k < l.length) : bitList (val (l.take k)) (7 * k) = bitList (val (l.take (k + 1))) (7 * k) :=
  bitList_congr _ _ _ fun i hi => (bitAt_val_low l k i hk hi).symm
/-- The number below place k + 1, by its bit at place k. -/
theorem mod_step (V k : Nat) : V % 2 ^ (k + 1) = V % 2 ^ k + (if bitAt V k = true then 2 ^ k else 0) := by
  have h := Nat.mod_mul (x := V) (a := 2 ^ k) (b := 2)
  rw [← Nat.pow_succ] at h
  rw [h]
  unfold bitAt
  have h2 : V / 2 ^ k % 2 < 2 := Nat.mod_lt _ (by omega)
  by_cases hb : V / 2 ^ k % 2 = 1
  · simp [hb]
  · have h0 : V / 2 ^ k % 2 = 0 := by omega
    simp [h0]
end Go.Proofs.Ytlbbnnljclndkaa.Leb
namespace Go.Proofs.Ytlbbnnljclndkaa.Leb
open Go.RowKit

theorem bool_info : (Try.prog.info? 4).map (fun i => (i.zero, i.size, i.bytes)) = some (some (.bool false), 1, 1) := by kernel_rfl
/-- The slice value v owns the first n bits of V, in a block from 'base' on. -/
def OwnB (w : World) (base : Nat) (v : Value) (V n : Nat) : Prop := w.ownsRow base 4 1 v n ((bitList V n).map Value.bool)
theorem OwnB.alloc {w : World} {base : Nat} {v : Value} {V n : Nat} (h : OwnB w base v V n) (o : Obj) : OwnB (w.alloc o) base v V n := World.ownsRow.alloc h o
/-- What leads to the first n bits of V. -/
def Bits (w : World) (g V n : Nat) : Prop := g < w.heap.size ∧ ∀ j, j < n → w.cell? ⟨g, j, none⟩ = some (.bool (bitAt V j))
theorem OwnB.bits {w : World} {base : Nat} {v : Value} {V n : Nat} (h : OwnB w base v V n) (hn : 0 < n) : ∃ g cap, v = .slice (some ⟨g, 0, none⟩) n cap ∧ Bits w g V n := by
  have hlt := World.ownsRow.lt h
  rcases h.2 with ⟨rfl, h0⟩ | ⟨g, cap, cur, rfl, h1, h2, h3, h4, h5⟩
  · omega
  · refine ⟨g, cap, rfl, (hlt g rfl).2, fun j hj => ?_⟩
    have hc := World.ownsRow.cellAt h j (by omega)
    rw [hc, List.getElem?_map, bitList_get V n j hj]
    rfl
section
variable {w : World} {ops : Array Oper} {rest : List Oper} {o : Oper} {a : Act} {Q : Exit → Act → World → Prop}
end
theorem bit_eq (l : List Nat) (k q x : Nat) (hk : k < l.length) (hq : q < 7) (hx : x = l[k]) : ((x : Int) / 2 ^ q % 2 == 1) = bitAt (val (l.take (k + 1))) (7 * k + q) := by
  rw [bitAt_val l k q hk hq, ← hx]
  have e : (x : Int) / 2 ^ q % 2 = ((x / 2 ^ q % 2 : Nat) : Int) := by simp
  rw [e, Bool.eq_iff_iff]
  simp only [beq_iff_eq]
  omega
/-- What trammelref01.Read answers: the bits of the bytes up to the last one, or an error. -/
def ReadGives (w : World) (l : List Nat) (m : Nat) (e : Ending) (w' : World) : Prop :=
  (m ≤ lead l ∧ e = .returned (.tuple #[.slice none 0 0, .int .i64 0, .int .i64 2]) ∧ Below w.heap.size w w') ∨
  (lead l < m ∧ lead l = l.length ∧ e = .returned (.tuple #[.slice none 0 0, .int .i64 0, .int .i64 1]) ∧ Below w.heap.size w w') ∨
  (lead l < m ∧ lead l < l.length ∧ ∃ g c, e = .returned (.tuple #[.slice (some ⟨g, 0, none⟩) (7 * (lead l + 1)) c, .int .i64 ((lead l + 1 : Nat) : Int), .int .i64 0]) ∧ Bits w' g (val (l.take (lead l + 1))) (7 * (lead l + 1)) ∧ Below w.heap.size w w')
end Go.Proofs.Ytlbbnnljclndkaa.Leb
namespace Go.Proofs.Ytlbbnnljclndkaa.Leb
open Go.RowKit

/-- What is gathered of bytes: the number (cut to 64 bits), how many bytes, the error. -/
def gath (l : List Nat) (m : Nat) : Nat × Nat × Nat :=
  if m ≤ lead l then (0, 0, 2) else if lead l = l.length then (0, 0, 1) else (gv l (lead l + 1), lead l + 1, 0)

end Go.Proofs.Ytlbbnnljclndkaa.Leb
namespace Go.Proofs.Ytlbbnnljclndkaa.Leb
open Go.RowKit

/-- What leb.U answers. -/
def inl (n : Nat) : Nat := n - (most n - 1) * 7
def uRes (l : List Nat) (n : Nat) : Nat × Nat × Nat :=
  if (gath l (most n)).2.2 = 0 then
    if (gath l (most n)).2.1 = most n ∧ l.getD (most n - 1) 0 / 2 ^ inl n ≠ 0 then (0, 0, 2) else gath l (most n)
  else (0, 0, (gath l (most n)).2.2)
theorem inl_bounds (n : Nat) (h0 : 1 ≤ n) : 1 ≤ inl n ∧ inl n ≤ 7 := by unfold inl most; omega
theorem gath_cases (l : List Nat) (m : Nat) : ∃ v s e, gath l m = (v, s, e) ∧ (e = 0 ∨ e = 1 ∨ e = 2) ∧ (e = 0 → 1 ≤ s ∧ s ≤ m ∧ s ≤ l.length) := by
  unfold gath
  have := lead_le l
  split
  · exact ⟨_, _, _, rfl, by omega, by omega⟩
  · split
    · exact ⟨_, _, _, rfl, by omega, by omega⟩
    · exact ⟨_, _, _, rfl, by omega, by omega⟩
section
variable (A : Option Addr) (len cap n v s : Nat) (w : World)
end
section
variable (b off len cap n v s x : Nat) (w : World)
end
end Go.Proofs.Ytlbbnnljclndkaa.Leb
namespace Go.Proofs.Ytlbbnnljclndkaa.Leb

/-- The bytes that an unsigned number is put as, where it has at most f + 1 of them. -/
def putUf : Nat → Nat → List Nat
  | 0, n => [n % 128]
  | f + 1, n => if n < 128 then [n] else (n % 128 + 128) :: putUf f (n / 128)
def putU (n : Nat) : List Nat := putUf 9 n
/-- The bytes that a signed number is put as, where it has at most f + 1 of them. -/
def putSf : Nat → Int → List Nat
  | 0, n => [(n % 128).toNat]
  | f + 1, n => if -64 ≤ n ∧ n < 64 then [(n % 128).toNat] else ((n % 128).toNat + 128) :: putSf f (n / 128)
def putS (n : Int) : List Nat := putSf 9 n

theorem putUf_byte (f n : Nat) : ∀ x ∈ putUf f n, x < 256 := by
  induction f generalizing n with
  | zero => intro x hx; simp [putUf] at hx; omega
  | succ f ih =>
    intro x hx
    simp only [putUf] at hx
    split at hx
    · simp at hx; omega
    · rcases List.mem_cons.1 hx with rfl | hx
      · omega
      · exact ih _ x hx
theorem putSf_byte (f : Nat) (n : Int) : ∀ x ∈ putSf f n, x < 256 := by
  induction f generalizing n with
  | zero => intro x hx; simp [putSf] at hx; omega
  | succ f ih =>
    intro x hx
    simp only [putSf] at hx
    split at hx
    · simp at hx; omega
    · rcases List.mem_cons.1 hx with rfl | hx
      · omega
      · exact ih _ x hx
theorem putUf_len (f n : Nat) : 1 ≤ (putUf f n).length ∧ (putUf f n).length ≤ f + 1 := by
  induction f generalizing n with
  | zero => simp [putUf]
  | succ f ih => simp only [putUf]; split <;> simp; have := ih (n / 128); omega
theorem putSf_len (f : Nat) (n : Int) : 1 ≤ (putSf f n).length ∧ (putSf f n).length ≤ f + 1 := by
  induction f generalizing n with
  | zero => simp [putSf]
  | succ f ih => simp only [putSf]; split <;> simp; have := ih (n / 128); omega
/-- What was put leads up to its last byte, with anything behind it. -/
theorem lead_putUf (f n : Nat) (more : List Nat) : lead (putUf f n ++ more) + 1 = (putUf f n).length := by
  induction f generalizing n with
  | zero => simp [putUf, lead]; omega
  | succ f ih =>
    simp only [putUf]
    split
    · rename_i h; simp [lead]; omega
    · have := ih (n / 128)
      simp only [List.cons_append, lead, List.length_cons]
      rw [if_pos (by omega)]
      omega
theorem lead_putSf (f : Nat) (n : Int) (more : List Nat) : lead (putSf f n ++ more) + 1 = (putSf f n).length := by
  induction f generalizing n with
  | zero => simp [putSf, lead]; omega
  | succ f ih =>
    simp only [putSf]
    split
    · simp [lead]; omega
    · have := ih (n / 128)
      simp only [List.cons_append, lead, List.length_cons]
      rw [if_pos (by omega)]
      omega
theorem val_putUf (f n : Nat) (h : n < 128 ^ (f + 1)) : val (putUf f n) = n := by
  induction f generalizing n with
  | zero => simp [putUf, val]; simp at h; omega
  | succ f ih =>
    simp only [putUf]
    split
    · simp [val]; omega
    · have := ih (n / 128) (by rw [Nat.pow_succ] at h; omega)
      simp only [val, this]
      omega
/-- Signed: what the bytes are worth is the number, cut to their bits. -/
theorem val_putSf (f : Nat) (n : Int) : ((val (putSf f n) : Nat) : Int) = n % 128 ^ (putSf f n).length := by
  induction f generalizing n with
  | zero => simp [putSf, val]; omega
  | succ f ih =>
    simp only [putSf]
    split
    · simp [val]; omega
    · have h := ih (n / 128)
      simp only [val, List.length_cons]
      generalize (putSf f (n / 128)).length = k at *
      have hp : (0 : Int) < 128 ^ k := Int.pow_pos (by omega)
      rw [Int.pow_succ]
      have e : n % (128 ^ k * 128) = 128 * (n / 128 % 128 ^ k) + n % 128 := by
        have h1 := Int.emod_add_mul_ediv n 128
        have h2 := Int.emod_add_mul_ediv (n / 128) (128 ^ k)
        have h3 := Int.emod_nonneg (n / 128) (show (128 : Int) ^ k ≠ 0 by omega)
        have h4 := Int.emod_lt_of_pos (n / 128) hp
        have h5 : n = (128 * (n / 128 % 128 ^ k) + n % 128) + 128 ^ k * 128 * (n / 128 / 128 ^ k) := by
          rw [Int.mul_comm (128 ^ k) 128, Int.mul_assoc]
          omega
        generalize hr : 128 * (n / 128 % 128 ^ k) + n % 128 = r at *
        rw [h5, Int.add_mul_emod_self_left]
        exact Int.emod_eq_of_lt (by omega) (by omega)
      rw [e, ← h]
      omega
/-- The fewest bytes: what fits into k of them has no more. -/
theorem putUf_least (f n k : Nat) (hk : 1 ≤ k) (h : n < 128 ^ k) : (putUf f n).length ≤ k := by
  induction f generalizing n k with
  | zero => simp [putUf]; exact hk
  | succ f ih =>
    simp only [putUf]
    split
    · simp; exact hk
    · rename_i hn
      cases k with
      | zero => omega
      | succ k =>
        rcases Nat.eq_zero_or_pos k with h0 | h0
        · subst h0; simp at h; omega
        · have := ih (n / 128) k h0 (by rw [Nat.pow_succ] at h; omega)
          simp only [List.length_cons]; omega
theorem putSf_least (f : Nat) (n : Int) (k : Nat) (hk : 1 ≤ k) (h : -(64 * 128 ^ (k - 1)) ≤ n ∧ n < 64 * 128 ^ (k - 1)) : (putSf f n).length ≤ k := by
  induction f generalizing n k with
  | zero => simp [putSf]; exact hk
  | succ f ih =>
    simp only [putSf]
    split
    · simp; exact hk
    · rename_i hn
      match k, hk, h with
      | 1, _, h => simp at h; omega
      | k + 2, _, h =>
        simp only [show k + 2 - 1 = k + 1 from rfl, Int.pow_succ] at h
        have hp : (0 : Int) < 128 ^ k := Int.pow_pos (by omega)
        have := ih (n / 128) (k + 1) (by omega) (by
          simp only [Nat.add_sub_cancel]
          generalize (128 : Int) ^ k = P at *
          omega)
        simp only [List.length_cons]; omega
/-- Signed: the number fits into the bits of its bytes. -/
theorem putSf_fits (f : Nat) (n : Int) (h : -(64 * 128 ^ f) ≤ n ∧ n < 64 * 128 ^ f) : -(64 * 128 ^ ((putSf f n).length - 1)) ≤ n ∧ n < 64 * 128 ^ ((putSf f n).length - 1) := by
  induction f generalizing n with
  | zero => simpa [putSf] using h
  | succ f ih =>
    simp only [putSf]
    split
    · rename_i hn; simp; omega
    · rename_i hn
      have hl := putSf_len f (n / 128)
      have h2 := ih (n / 128) (by
        rw [Int.pow_succ] at h
        have hp : (0 : Int) < 128 ^ f := Int.pow_pos (by omega)
        generalize (128 : Int) ^ f = P at *
        omega)
      simp only [List.length_cons, Nat.add_sub_cancel]
      obtain ⟨k, hk⟩ : ∃ k, (putSf f (n / 128)).length = k + 1 := ⟨(putSf f (n / 128)).length - 1, by omega⟩
      rw [hk] at h2 ⊢
      simp only [Nat.add_sub_cancel, Int.pow_succ] at h2 ⊢
      have hp : (0 : Int) < 128 ^ k := Int.pow_pos (by omega)
      generalize (128 : Int) ^ k = P at *
      omega
theorem or80 (x : Nat) (h : x < 256) : x ||| 128 = x % 128 + 128 := by
  have : ∀ x : Fin 256, x.val ||| 128 = x.val % 128 + 128 := by decide +kernel
  exact this ⟨x, h⟩
theorem byteU (n : Nat) : bits .or .u8 (IntKind.u8.wrap (n : Int)) 128 = ((n % 128 + 128 : Nat) : Int) := by
  have e : IntKind.u8.wrap (n : Int) = ((n % 256 : Nat) : Int) := by rw [IntKind.wrap_u8']; omega
  rw [e]
  have := u8_or_nat (n % 256) 128 (by omega) (by omega)
  rw [or80 _ (by omega)] at this
  rw [show n % 128 + 128 = n % 256 % 128 + 128 from by omega]
  exact this
theorem byteS (n : Int) : bits .or .u8 (IntKind.u8.wrap n) 128 = (((n % 128).toNat + 128 : Nat) : Int) := by
  have e : IntKind.u8.wrap n = (((n % 256).toNat : Nat) : Int) := by rw [IntKind.wrap_u8']; omega
  rw [e]
  have := u8_or_nat (n % 256).toNat 128 (by omega) (by omega)
  rw [or80 _ (by omega)] at this
  rw [show (n % 128).toNat + 128 = (n % 256).toNat % 128 + 128 from by omega]
  exact this
theorem lastS (n : Int) : bits .and .u8 (IntKind.u8.wrap n) 127 = (((n % 128).toNat : Nat) : Int) := by
  have e : IntKind.u8.wrap n = (((n % 256).toNat : Nat) : Int) := by rw [IntKind.wrap_u8']; omega
  rw [e, mask7 _ (by omega)]
  omega
end Go.Proofs.Ytlbbnnljclndkaa.Leb
namespace Go.Proofs.Ytlbbnnljclndkaa.Leb
open Go.RowKit

theorem take_put (l more : List Nat) : (l ++ more).take l.length = l := by simp
theorem getD_put (l more : List Nat) (h : 1 ≤ l.length) : (l ++ more).getD (l.length - 1) 0 = l.getD (l.length - 1) 0 := by
  simp [List.getD, List.getElem?_append_left (show l.length - 1 < l.length by omega)]
theorem last_putUf (f n : Nat) (h : n < 128 ^ (f + 1)) : (putUf f n).getD ((putUf f n).length - 1) 0 = n / 128 ^ ((putUf f n).length - 1) := by
  induction f generalizing n with
  | zero => simp [putUf]; simp at h; omega
  | succ f ih =>
    simp only [putUf]
    split
    · simp
    · have h1 := ih (n / 128) (by rw [Nat.pow_succ] at h; omega)
      have h2 := (putUf_len f (n / 128)).1
      obtain ⟨k, hk⟩ : ∃ k, (putUf f (n / 128)).length = k + 1 := ⟨(putUf f (n / 128)).length - 1, by omega⟩
      rw [hk] at h1
      simp only [List.length_cons, hk, Nat.add_sub_cancel] at h1 ⊢
      rw [List.getD_cons_succ, h1, Nat.pow_succ, Nat.mul_comm, Nat.div_div_eq_div_mul]
theorem most_inl (n : Nat) (h : 1 ≤ n) : 1 ≤ most n ∧ n = 7 * (most n - 1) + inl n := by unfold inl most; omega
/-- leb.U reads what leb.PutU put. -/
theorem uRes_put (n b : Nat) (more : List Nat) (h0 : 1 ≤ b) (h64 : b ≤ 64) (hn : n < 2 ^ b) : uRes (putU n ++ more) b = (n, (putU n).length, 0) := by
  obtain ⟨hm1, hmi⟩ := most_inl b h0
  have hp : (2 : Nat) ^ b ≤ 2 ^ 64 := Nat.pow_le_pow_right (by omega) h64
  have h70 : n < 128 ^ 10 := by omega
  have hlen := putUf_len 9 n
  have hln : 1 ≤ (putU n).length := hlen.1
  have hle : (putU n).length ≤ most b := putUf_least 9 n _ hm1 (by
    rw [pow7]
    exact Nat.lt_of_lt_of_le hn (Nat.pow_le_pow_right (by omega) (by have := inl_bounds b h0; omega)))
  have hl : lead (putU n ++ more) + 1 = (putU n).length := lead_putUf 9 n more
  have hg : gath (putU n ++ more) (most b) = (n, (putU n).length, 0) := by
    unfold gath
    rw [if_neg (by omega), if_neg (by simp; omega), hl]
    unfold gv
    rw [take_put, show val (putU n) = n from val_putUf 9 n h70, Nat.mod_eq_of_lt (by unfold big; omega)]
  unfold uRes
  rw [hg, if_pos rfl, if_neg]
  rintro ⟨h1, h2⟩
  simp only at h1
  apply h2
  rw [← h1, getD_put _ _ hln, show (putU n).getD ((putU n).length - 1) 0 = n / 128 ^ ((putU n).length - 1) from last_putUf 9 n h70, h1, pow7, Nat.div_div_eq_div_mul, ← Nat.pow_add, ← hmi]
  exact Nat.div_eq_of_lt hn
end Go.Proofs.Ytlbbnnljclndkaa.Leb
namespace Go.Proofs.Ytlbbnnljclndkaa.Leb
open Go.RowKit

/-- V below place k. -/
def low (V k : Nat) : Nat := V % 2 ^ k
theorem low_next (V k : Nat) (h : bitAt V k = false) : low V (k + 1) = low V k := by
  unfold low; rw [mod_step, h]; simp
theorem low_more (V k : Nat) (h : bitAt V k = true) : low V (k + 1) = low V k + 2 ^ k := by
  unfold low; rw [mod_step, h]; simp
theorem low_ge (V k : Nat) (h : bitAt V k = true) : 2 ^ k ≤ V := by
  have h1 := low_more V k h
  have h2 : low V (k + 1) ≤ V := Nat.mod_le _ _
  omega
theorem low_all (V k : Nat) (h : V < 2 ^ k) : low V k = V := Nat.mod_eq_of_lt h
theorem add_low (V k : Nat) (hk : k < 64) (h : bitAt V k = true) : IntKind.u64.wrap ((low V k : Nat) + IntKind.u64.wrap (2 ^ k) : Int) = ((low V (k + 1) : Nat) : Int) := by
  have h1 : low V k < 2 ^ k := Nat.mod_lt _ (Nat.pow_pos (by omega))
  have h2 : (2 : Nat) ^ k ≤ 2 ^ 63 := Nat.pow_le_pow_right (by omega) (by omega)
  have e : (2 : Int) ^ k = ((2 ^ k : Nat) : Int) := by simp
  rw [low_more V k h, e, IntKind.wrap_u64, IntKind.wrap_u64]
  generalize 2 ^ k = P at *
  omega
/-- leb.U's answer, told by what the bytes are worth. -/
theorem uRes_val (l : List Nat) (n : Nat) (h0 : 1 ≤ n) (h64 : n ≤ 64) (hm : lead l < most n) (hl : lead l < l.length) :
    uRes l n = if val (l.take (lead l + 1)) < 2 ^ n then (val (l.take (lead l + 1)), lead l + 1, 0) else (0, 0, 2) := by
  obtain ⟨hm1, hmi⟩ := most_inl n h0
  have hg : gath l (most n) = (gv l (lead l + 1), lead l + 1, 0) := by
    unfold gath
    rw [if_neg (by omega), if_neg (by omega)]
  have hlt := val_take_lt l (lead l + 1)
  have h2 : (2 : Nat) ^ n ≤ 2 ^ 64 := Nat.pow_le_pow_right (by omega) h64
  unfold uRes
  rw [hg, if_pos rfl]
  by_cases hs : lead l + 1 = most n
  · have hlast : l.getD (most n - 1) 0 = l[lead l] := by
      rw [← hs, Nat.add_sub_cancel, List.getD, List.getElem?_eq_getElem hl]; rfl
    have hx := lead_lt l hl
    have hv := val_take l (lead l) hl
    have hv0 := val_take_lt l (lead l)
    rw [Nat.mod_eq_of_lt hx] at hv
    have e : (2 : Nat) ^ n = 2 ^ (7 * lead l) * 2 ^ inl n := by rw [← Nat.pow_add]; congr 1; omega
    have hiff : val (l.take (lead l + 1)) < 2 ^ n ↔ l[lead l] / 2 ^ inl n = 0 := by
      rw [Nat.div_eq_zero_iff_lt (Nat.pow_pos (by omega)), hv, e]
      constructor
      · intro h
        rcases Nat.lt_or_ge l[lead l] (2 ^ inl n) with h3 | h3
        · exact h3
        · have := Nat.mul_le_mul_left (2 ^ (7 * lead l)) h3
          rw [Nat.mul_comm (2 ^ (7 * lead l)) l[lead l]] at this
          omega
      · intro h
        have h3 : (l[lead l] + 1) * 2 ^ (7 * lead l) ≤ 2 ^ inl n * 2 ^ (7 * lead l) := Nat.mul_le_mul_right _ h
        rw [Nat.add_mul, Nat.mul_comm (2 ^ inl n)] at h3
        omega
    by_cases hc : val (l.take (lead l + 1)) < 2 ^ n
    · rw [if_pos hc, if_neg (by rw [hlast]; exact fun h => h.2 (hiff.1 hc))]
      unfold gv
      rw [Nat.mod_eq_of_lt (by unfold big; omega)]
    · rw [if_neg hc, if_pos ⟨hs, by rw [hlast]; exact fun h => hc (hiff.2 h)⟩]
  · have hp : (2 : Nat) ^ (7 * (lead l + 1)) ≤ 2 ^ n := Nat.pow_le_pow_right (by omega) (by omega)
    rw [if_neg (fun h => hs h.1), if_pos (by omega)]
    unfold gv
    rw [Nat.mod_eq_of_lt (by unfold big; omega)]
/-- A call returns an unsigned number, how many bytes it has and its error, and changes nothing that was there. -/
def TellsU (w : World) (r : Nat × Nat × Nat) (e : Ending) (w' : World) : Prop := e = .returned (.tuple #[.int .u64 (r.1 : Int), .int .i64 (r.2.1 : Int), .int .i64 (r.2.2 : Int)]) ∧ Below w.heap.size w w'
theorem uRes_32 (l : List Nat) (h : (uRes l 32).2.2 = 0) : (uRes l 32).1 < 4294967296 ∧ 1 ≤ (uRes l 32).2.1 ∧ (uRes l 32).2.1 ≤ l.length := by
  obtain ⟨v, s, e, hg, _, hs⟩ := gath_cases l (most 32)
  by_cases he : e = 0
  · subst he
    obtain ⟨hs1, hsm, hsl⟩ := hs rfl
    have hlead : lead l < most 32 ∧ lead l < l.length := by
      unfold gath at hg
      have hl := lead_le l
      by_cases h1 : most 32 ≤ lead l
      · rw [if_pos h1] at hg; simp at hg
      · rw [if_neg h1] at hg
        by_cases h2 : lead l = l.length
        · rw [if_pos h2] at hg; simp at hg
        · omega
    have hv := uRes_val l 32 (by omega) (by omega) hlead.1 hlead.2
    by_cases hc : val (l.take (lead l + 1)) < 2 ^ 32
    · rw [if_pos hc] at hv
      rw [hv]
      exact ⟨hc, by simp, by simp; omega⟩
    · rw [if_neg hc] at hv
      rw [hv] at h
      simp at h
  · unfold uRes at h
    rw [hg, if_neg he] at h
    exact absurd h he
end Go.Proofs.Ytlbbnnljclndkaa.Leb
namespace Go.Proofs.Ytlbbnnljclndkaa.Leb
open Go.RowKit

end Go.Proofs.Ytlbbnnljclndkaa.Leb
namespace Go.Proofs.Ytlbbnnljclndkaa.Leb
open Go.RowKit

theorem stepS (f : Nat) (n : Int) (h : -(64 * 128 ^ (f + 1)) ≤ n ∧ n < 64 * 128 ^ (f + 1)) : -(64 * 128 ^ f) ≤ n / 128 ∧ n / 128 < 64 * 128 ^ f := by
  rw [Int.pow_succ] at h
  have hp : (0 : Int) < 128 ^ f := Int.pow_pos (by omega)
  generalize (128 : Int) ^ f = P at *
  omega
end Go.Proofs.Ytlbbnnljclndkaa.Leb
namespace Go.Proofs.Ytlbbnnljclndkaa.Leb
open Go.RowKit

theorem own_empty (w : World) : Own (w.alloc (.cells #[] 5)) w.heap.size (.slice (some ⟨w.heap.size, 0, none⟩) 0 0) [] :=
  World.ownsRow_lit w #[] 0 (Nat.le_refl _) (by simp [maxLen]) rfl
end Go.Proofs.Ytlbbnnljclndkaa.Leb
namespace Go.Proofs.Ytlbbnnljclndkaa.Leb
open Go.RowKit

def csB (x b : Int) : Bool := x / 2 ^ (b.toNat - 1) == 0 || x / 2 ^ (b.toNat - 1) == 127 / 2 ^ (b.toNat - 1)
def ext (v b : Int) : Int := if 64 ≤ b then wrap64 v else wrap64 (IntKind.u64.wrap (v * 2 ^ (64 - b).toNat)) / 2 ^ (64 - b).toNat
/-- What leb.S answers. -/
def sRes (l : List Nat) (n : Nat) : Int × Nat × Nat :=
  if (gath l (most n)).2.2 = 0 then
    if (gath l (most n)).2.1 = most n ∧ csB (l.getD (most n - 1) 0 : Nat) (inl n : Nat) = false then (0, 0, 2) else (ext (gath l (most n)).1 ((gath l (most n)).2.1 * 7), (gath l (most n)).2.1, 0)
  else (0, 0, (gath l (most n)).2.2)
section
variable (A : Option Addr) (len cap n v s : Nat) (w : World)
end
section
variable (b off len cap n v s x : Nat) (w : World)
end
end Go.Proofs.Ytlbbnnljclndkaa.Leb
namespace Go.Proofs.Ytlbbnnljclndkaa.Leb
open Go.RowKit

theorem wrap64_def (x : Int) : wrap64 x = (x + 9223372036854775808) % 18446744073709551616 - 9223372036854775808 := by
  unfold wrap64
  omega
/-- The sign of 7 k bits, told by cases. -/
theorem ext_val (k v : Nat) (h0 : 1 ≤ k) (h9 : k ≤ 9) (hv : v < 128 ^ k) : ext v ((k : Int) * 7) = if v < 64 * 128 ^ (k - 1) then (v : Int) else (v : Int) - 128 ^ k := by
  have hk : k = 1 ∨ k = 2 ∨ k = 3 ∨ k = 4 ∨ k = 5 ∨ k = 6 ∨ k = 7 ∨ k = 8 ∨ k = 9 := by omega
  rcases hk with rfl | rfl | rfl | rfl | rfl | rfl | rfl | rfl | rfl <;>
  · have e : ∀ x : Int, IntKind.u64.wrap x = x % 18446744073709551616 := IntKind.wrap_u64
    simp [ext, e, wrap64_def] at hv ⊢
    split <;> omega
theorem ext_ten (v : Nat) : ext v ((10 : Nat) * 7 : Int) = wrap64 v := by
  unfold ext; rw [if_pos (by omega)]
/-- What is read as signed from k bytes fits into k bytes. -/
theorem ext_fits (k v : Nat) (h0 : 1 ≤ k) (h9 : k ≤ 10) (hv : v < 128 ^ k) : -(64 * 128 ^ (k - 1)) ≤ ext (v % big : Nat) ((k : Int) * 7) ∧ ext (v % big : Nat) ((k : Int) * 7) < 64 * 128 ^ (k - 1) := by
  rcases Nat.lt_or_ge k 10 with h | h
  · have hp : (128 : Nat) ^ k ≤ 128 ^ 9 := Nat.pow_le_pow_right (by omega) (by omega)
    have e : v % big = v := Nat.mod_eq_of_lt (by unfold big; omega)
    rw [e, ext_val k v h0 (by omega) hv]
    obtain ⟨j, rfl⟩ : ∃ j, k = j + 1 := ⟨k - 1, by omega⟩
    rw [Nat.pow_succ] at hv
    simp only [Nat.add_sub_cancel, Int.pow_succ]
    have hc : ((128 ^ j : Nat) : Int) = (128 : Int) ^ j := by simp
    rw [← hc]
    generalize 128 ^ j = P at *
    split <;> omega
  · obtain rfl : k = 10 := by omega
    have := ext_ten (v % big)
    rw [this, wrap64_def]
    simp
    omega
/-- A signed number that fits into k bytes, cut to their bits, is read as itself. -/
theorem ext_back (k v : Nat) (m : Int) (h0 : 1 ≤ k) (h10 : k ≤ 10) (hm : -(64 * 128 ^ (k - 1)) ≤ m ∧ m < 64 * 128 ^ (k - 1)) (h64 : -9223372036854775808 ≤ m ∧ m ≤ 9223372036854775807) (hv : (v : Int) = m % 128 ^ k) :
    ext (v % big : Nat) ((k : Int) * 7) = m := by
  rcases Nat.lt_or_ge k 10 with h | h
  · have hp : (128 : Nat) ^ k ≤ 128 ^ 9 := Nat.pow_le_pow_right (by omega) (by omega)
    have hc : ((128 ^ k : Nat) : Int) = (128 : Int) ^ k := by simp
    have hpos : (0 : Int) < 128 ^ k := Int.pow_pos (by omega)
    have hvlt : v < 128 ^ k := by have := Int.emod_lt_of_pos m hpos; omega
    have e : v % big = v := Nat.mod_eq_of_lt (by unfold big; omega)
    rw [e, ext_val k v h0 (by omega) hvlt]
    obtain ⟨j, rfl⟩ : ∃ j, k = j + 1 := ⟨k - 1, by omega⟩
    simp only [Nat.add_sub_cancel, Int.pow_succ] at *
    have hc : ((128 ^ j : Nat) : Int) = (128 : Int) ^ j := by simp
    have hjp : (0 : Int) < 128 ^ j := Int.pow_pos (by omega)
    rw [← hc] at hm hv hjp ⊢
    generalize 128 ^ j = P at *
    rcases Int.lt_or_le m 0 with hn | hn
    · have : m % ((P : Int) * 128) = m + (P : Int) * 128 := by
        rw [show m = (m + (P : Int) * 128) + ((P : Int) * 128) * (-1) from by omega, Int.add_mul_emod_self_left, Int.emod_eq_of_lt (by omega) (by omega)]; omega
      rw [this] at hv
      rw [if_neg (by omega)]; omega
    · rw [Int.emod_eq_of_lt hn (by omega)] at hv
      rw [if_pos (by omega)]; omega
  · obtain rfl : k = 10 := by omega
    have := ext_ten (v % big)
    rw [this, wrap64_def]
    unfold big
    omega
theorem last_putSf (f : Nat) (n : Int) : (putSf f n).getD ((putSf f n).length - 1) 0 = (n / 128 ^ ((putSf f n).length - 1) % 128).toNat := by
  induction f generalizing n with
  | zero => simp [putSf]
  | succ f ih =>
    simp only [putSf]
    split
    · simp
    · have h1 := ih (n / 128)
      have h2 := (putSf_len f (n / 128)).1
      obtain ⟨k, hk⟩ : ∃ k, (putSf f (n / 128)).length = k + 1 := ⟨(putSf f (n / 128)).length - 1, by omega⟩
      rw [hk] at h1
      simp only [List.length_cons, hk, Nat.add_sub_cancel] at h1 ⊢
      rw [List.getD_cons_succ, h1, Int.pow_succ, Int.mul_comm, Int.ediv_ediv_of_nonneg (by omega)]
theorem cs_fits (q : Int) (i : Nat) (h1 : 1 ≤ i) (h7 : i ≤ 7) (h : -(2 ^ (i - 1)) ≤ q ∧ q < 2 ^ (i - 1)) : csB (((q % 128).toNat : Nat) : Int) (i : Int) = true := by
  have hi : i = 1 ∨ i = 2 ∨ i = 3 ∨ i = 4 ∨ i = 5 ∨ i = 6 ∨ i = 7 := by omega
  rcases hi with rfl | rfl | rfl | rfl | rfl | rfl | rfl <;>
  · simp [csB] at h ⊢
    omega
theorem two_le {a b : Nat} (h : a ≤ b) : (2 : Int) ^ a ≤ 2 ^ b := by
  have h1 : 2 ^ a ≤ 2 ^ b := Nat.pow_le_pow_right (by omega) h
  have h2 : ((2 ^ a : Nat) : Int) ≤ ((2 ^ b : Nat) : Int) := by omega
  simpa using h2
/-- leb.S reads what leb.PutS put. -/
theorem sRes_put (m : Int) (b : Nat) (more : List Nat) (h0 : 1 ≤ b) (h64 : b ≤ 64) (hm : -(2 ^ (b - 1)) ≤ m ∧ m < 2 ^ (b - 1)) : sRes (putS m ++ more) b = (m, (putS m).length, 0) := by
  obtain ⟨hm1, hmi⟩ := most_inl b h0
  have hib := inl_bounds b h0
  have hp : (2 : Int) ^ (b - 1) ≤ 2 ^ 63 := two_le (by omega)
  have h63 : (2 : Int) ^ 63 = 9223372036854775808 := by decide
  have hr : -9223372036854775808 ≤ m ∧ m ≤ 9223372036854775807 := by omega
  have hlen := putSf_len 9 m
  have hln : 1 ≤ (putS m).length := hlen.1
  have e64 : ∀ j : Nat, (64 : Int) * 128 ^ j = 2 ^ (6 + 7 * j) := by
    intro j
    rw [Int.pow_add, Int.pow_mul]; rfl
  have hle : (putS m).length ≤ most b := putSf_least 9 m _ hm1 (by
    have : (2 : Int) ^ (b - 1) ≤ 2 ^ (6 + 7 * (most b - 1)) := two_le (by omega)
    rw [e64]; omega)
  have hfit := putSf_fits 9 m (by omega)
  have hl : lead (putS m ++ more) + 1 = (putS m).length := lead_putSf 9 m more
  have hg : gath (putS m ++ more) (most b) = (gv (putS m ++ more) (putS m).length, (putS m).length, 0) := by
    unfold gath
    rw [if_neg (by omega), if_neg (by simp; omega), hl]
  have hv : ext (gv (putS m ++ more) (putS m).length : Nat) (((putS m).length : Int) * 7) = m := by
    unfold gv
    rw [take_put]
    exact ext_back _ _ m hlen.1 hlen.2 hfit hr (val_putSf 9 m)
  unfold sRes
  rw [hg, if_pos rfl, if_neg]
  · simp only [hv]
  · rintro ⟨h1, h2⟩
    simp only at h1
    rw [← h1, getD_put _ _ hln, show (putS m).getD ((putS m).length - 1) 0 = (m / 128 ^ ((putS m).length - 1) % 128).toNat from last_putSf 9 m, h1] at h2
    rw [cs_fits _ _ hib.1 hib.2 ?_] at h2
    · cases h2
    · have e : (2 : Int) ^ (b - 1) = 128 ^ (most b - 1) * 2 ^ (inl b - 1) := by
        rw [show (128 : Int) = 2 ^ 7 from rfl, ← Int.pow_mul, ← Int.pow_add]
        congr 1; omega
      rw [e] at hm
      have hpos : (0 : Int) < 128 ^ (most b - 1) := Int.pow_pos (by omega)
      constructor
      · rw [Int.le_ediv_iff_mul_le hpos, Int.neg_mul, Int.mul_comm]; exact hm.1
      · rw [Int.ediv_lt_iff_lt_mul hpos, Int.mul_comm]; exact hm.2
end Go.Proofs.Ytlbbnnljclndkaa.Leb
namespace Go.Proofs.Ytlbbnnljclndkaa.Leb
open Go.RowKit

theorem bitAt_test (V i : Nat) : bitAt V i = V.testBit i := by
  unfold bitAt
  rw [Nat.testBit_eq_decide_div_mod_eq, Bool.eq_iff_iff]
  simp
theorem bitAt_ones (m j : Nat) (h : j < m) : bitAt (2 ^ m - 1) j = true := by
  rw [bitAt_test, Nat.testBit_two_pow_sub_one]
  simpa using h
theorem bitAt_zero (V k i : Nat) (h : V < 2 ^ k) (hi : k ≤ i) : bitAt V i = false := by
  have h2 : (2 : Nat) ^ k ≤ 2 ^ i := Nat.pow_le_pow_right (by omega) hi
  unfold bitAt
  rw [Nat.div_eq_of_lt (by omega)]
  rfl
theorem bitAt_cut (V k i : Nat) (h : i < k) : bitAt (V % 2 ^ k) i = bitAt V i := by
  have h1 := bitAt_low (V % 2 ^ k) (V / 2 ^ k) k i h
  rw [Nat.mul_comm, Nat.mod_add_div] at h1
  exact h1.symm
/-- The number of k bits, its highest one the sign. -/
def sgn (V k : Nat) : Int := if bitAt V (k - 1) = true then (V : Int) - 2 ^ k else (V : Int)
/-- .. as 64 bits. -/
def two (V k : Nat) : Nat := (sgn V k % 18446744073709551616).toNat
theorem two_bit (V k i : Nat) (hk : 1 ≤ k) (hV : V < 2 ^ k) (hi : i < 64) : bitAt (two V k) i = if i < k then bitAt V i else bitAt V (k - 1) := by
  have h64 : (18446744073709551616 : Nat) = 2 ^ 64 := rfl
  unfold two sgn
  by_cases hs : bitAt V (k - 1) = true
  · rw [if_pos hs]
    by_cases hk64 : 64 ≤ k
    · have e : (((V : Int) - 2 ^ k) % 18446744073709551616).toNat = V % 2 ^ 64 := by
        have e1 : (2 : Int) ^ k = 18446744073709551616 * 2 ^ (k - 64) := by
          rw [show (18446744073709551616 : Int) = 2 ^ 64 from rfl, ← Int.pow_add]; congr 1; omega
        rw [e1, Int.sub_eq_add_neg, ← Int.mul_neg, Int.add_mul_emod_self_left, ← h64]
        omega
      rw [e, bitAt_cut V 64 i hi, if_pos (by omega)]
    · have hp : (2 : Nat) ^ k ≤ 2 ^ 63 := Nat.pow_le_pow_right (by omega) (by omega)
      have e2 : (2 : Nat) ^ 64 = 2 ^ (64 - k) * 2 ^ k := by rw [← Nat.pow_add]; congr 1; omega
      have hc : ((2 ^ k : Nat) : Int) = (2 : Int) ^ k := by simp
      have e : (((V : Int) - 2 ^ k) % 18446744073709551616).toNat = V + (2 ^ (64 - k) - 1) * 2 ^ k := by
        rw [Nat.sub_mul, ← e2, ← hc, Nat.one_mul]
        have : ((V : Int) - ((2 ^ k : Nat) : Int)) % 18446744073709551616 = (V : Int) - ((2 ^ k : Nat) : Int) + 18446744073709551616 := by
          generalize 2 ^ k = P at *
          omega
        rw [this]
        generalize 2 ^ k = P at *
        omega
      rw [e]
      by_cases hik : i < k
      · rw [if_pos hik, bitAt_low _ _ _ _ hik]
      · rw [if_neg hik, hs, show i = k + (i - k) from by omega, bitAt_high _ _ _ _ hV, bitAt_ones _ _ (by omega)]
  · rw [if_neg hs]
    have e : ((V : Int) % 18446744073709551616).toNat = V % 2 ^ 64 := by rw [← h64]; omega
    rw [e, bitAt_cut V 64 i hi]
    by_cases hik : i < k
    · rw [if_pos hik]
    · rw [if_neg hik, bitAt_zero V k i hV (by omega)]
      simpa using hs
theorem wrap64_more (x k : Int) : wrap64 (x + 18446744073709551616 * k) = wrap64 x := by
  simp only [wrap64_def]
  rw [show x + 18446744073709551616 * k + 9223372036854775808 = (x + 9223372036854775808) + 18446744073709551616 * k from by omega, Int.add_mul_emod_self_left]
theorem wrap64_is (x : Int) : ∃ k, wrap64 x = x + 18446744073709551616 * k := by
  refine ⟨-((x + 9223372036854775808) / 18446744073709551616), ?_⟩
  rw [wrap64_def]
  have := Int.emod_add_mul_ediv (x + 9223372036854775808) 18446744073709551616
  omega
theorem wrap64_twice (x : Int) : wrap64 (wrap64 x * 2) = wrap64 (x * 2) := by
  obtain ⟨k, hk⟩ := wrap64_is x
  rw [hk, show (x + 18446744073709551616 * k) * 2 = x * 2 + 18446744073709551616 * (k * 2) from by omega, wrap64_more]
theorem wrap64_mul (x y : Int) : wrap64 (wrap64 x * 2 + y) = wrap64 (x * 2 + y) := by
  obtain ⟨k, hk⟩ := wrap64_is x
  rw [hk, show (x + 18446744073709551616 * k) * 2 + y = x * 2 + y + 18446744073709551616 * (k * 2) from by omega, wrap64_more]
theorem wrap64_plus (x y : Int) : wrap64 (wrap64 x + y) = wrap64 (x + y) := by
  obtain ⟨k, hk⟩ := wrap64_is x
  rw [hk, show x + 18446744073709551616 * k + y = x + y + 18446744073709551616 * k from by omega, wrap64_more]
/-- What the reference has behind the bits from 63 down to j. -/
def acc (Y j : Nat) : Int := wrap64 ((Y / 2 ^ j : Nat) : Int)
theorem acc_start (Y : Nat) (h : Y < 18446744073709551616) : acc Y 64 = 0 := by
  unfold acc
  rw [Nat.div_eq_of_lt (by omega), wrap64_def]
  rfl
theorem acc_step (Y j : Nat) : acc Y j = wrap64 (wrap64 (acc Y (j + 1) * 2) + (if bitAt Y j = true then 1 else 0)) := by
  have h : Y / 2 ^ j = 2 * (Y / 2 ^ (j + 1)) + Y / 2 ^ j % 2 := by
    rw [Nat.pow_succ, ← Nat.div_div_eq_div_mul]; omega
  have h2 : ((Y / 2 ^ j % 2 : Nat) : Int) = if bitAt Y j = true then 1 else 0 := by
    unfold bitAt
    by_cases hb : Y / 2 ^ j % 2 = 1
    · simp [hb]
    · have h0 : Y / 2 ^ j % 2 = 0 := by omega
      simp [h0]
  have key : ∀ a b c : Nat, c = 2 * a + b → wrap64 (c : Int) = wrap64 (wrap64 (wrap64 (a : Int) * 2) + (b : Int)) := by
    intro a b c hc
    rw [wrap64_plus, wrap64_mul, hc]
    congr 1
    omega
  unfold acc
  rw [← h2]
  exact key _ _ _ h
theorem acc_one (Y j : Nat) (h : bitAt Y j = true) : acc Y j = wrap64 (wrap64 (acc Y (j + 1) * 2) + 1) := by rw [acc_step, if_pos h]
theorem acc_none (Y j : Nat) (h : bitAt Y j = false) : acc Y j = wrap64 (acc Y (j + 1) * 2) := by
  rw [acc_step, if_neg (by rw [h]; simp), wrap64_plus, Int.add_zero]
theorem acc_end (V k : Nat) : acc (two V k) 0 = wrap64 (sgn V k) := by
  unfold acc two
  rw [Nat.pow_zero, Nat.div_one]
  simp only [wrap64_def]
  omega
/-- leb.S's number is the reference's. -/
theorem ext_sgn (V s : Nat) (h1 : 1 ≤ s) (h10 : s ≤ 10) (hV : V < 128 ^ s) : ext (V % big : Nat) ((s : Int) * 7) = wrap64 (sgn V (7 * s)) := by
  rcases Nat.lt_or_ge s 10 with h | h
  · have hp : (128 : Nat) ^ s ≤ 128 ^ 9 := Nat.pow_le_pow_right (by omega) (by omega)
    have e : V % big = V := Nat.mod_eq_of_lt (by unfold big; omega)
    rw [e, ext_val s V h1 (by omega) hV]
    have e1 : (64 : Nat) * 128 ^ (s - 1) = 2 ^ (7 * s - 1) := by
      rw [pow7, show (64 : Nat) = 2 ^ 6 from rfl, ← Nat.pow_add]; congr 1; omega
    have e2 : (128 : Nat) ^ s = 2 ^ (7 * s - 1) * 2 := by
      rw [pow7, ← Nat.pow_succ]; congr 1; omega
    have hbit : bitAt V (7 * s - 1) = true ↔ ¬ V < 64 * 128 ^ (s - 1) := by
      rw [e1]
      unfold bitAt
      rw [e2] at hV
      generalize hP : (2 : Nat) ^ (7 * s - 1) = P at *
      have hPpos : 0 < P := by rw [← hP]; exact Nat.pow_pos (by omega)
      constructor
      · intro hb hlt
        rw [Nat.div_eq_of_lt hlt] at hb
        simp at hb
      · intro hge
        have : V / P = 1 := by
          apply Nat.div_eq_of_lt_le <;> omega
        rw [this]; rfl
    have hc : ((2 ^ (7 * s) : Nat) : Int) = (2 : Int) ^ (7 * s) := by simp
    have hc2 : ((128 ^ s : Nat) : Int) = (128 : Int) ^ s := by simp
    unfold sgn
    by_cases hv : V < 64 * 128 ^ (s - 1)
    · rw [if_pos hv, if_neg (fun hb => (hbit.1 hb) hv), wrap64_def]
      omega
    · rw [if_neg hv, if_pos (hbit.2 hv), wrap64_def, ← hc, ← hc2, ← pow7]
      omega
  · obtain rfl : s = 10 := by omega
    have := ext_ten (V % big)
    rw [this]
    unfold sgn
    simp only [wrap64_def]
    split <;> (unfold big; omega)
/-- Do all bits from n on, below k, agree with the one ahead of them? -/
def Agree (V n k : Nat) : Prop := ∀ i, n ≤ i → i < k → bitAt V i = bitAt V (n - 1)
theorem cs_bits : ∀ x : Fin 128, ∀ i : Fin 7, csB (x.val : Int) ((i.val + 1 : Nat) : Int) = (List.range 7).all fun j => j < i.val + 1 || bitAt x.val j == bitAt x.val i.val := by decide +kernel
theorem cs_agree (x i : Nat) (hx : x < 128) (h1 : 1 ≤ i) (h7 : i ≤ 7) : csB (x : Int) (i : Int) = true ↔ ∀ j, i ≤ j → j < 7 → bitAt x j = bitAt x (i - 1) := by
  obtain ⟨i, rfl⟩ : ∃ k, i = k + 1 := ⟨i - 1, by omega⟩
  have := cs_bits ⟨x, hx⟩ ⟨i, by omega⟩
  simp only at this
  rw [this, List.all_eq_true]
  constructor
  · intro h j hj hj7
    have := h j (by simpa using hj7)
    simp at this
    rcases this with h2 | h2
    · omega
    · simpa using h2
  · intro h j hj
    have hj7 : j < 7 := by simpa using hj
    by_cases hji : j < i + 1
    · simp [hji]
    · have := h j (by omega) hj7
      simp at this
      simp [this]
/-- leb.S's answer, told by the bits. -/
theorem sRes_bits (l : List Nat) (n : Nat) (h0 : 1 ≤ n) (h64 : n ≤ 64) (hm : lead l < most n) (hl : lead l < l.length) :
    (Agree (val (l.take (lead l + 1))) n (7 * (lead l + 1)) → sRes l n = (wrap64 (sgn (val (l.take (lead l + 1))) (7 * (lead l + 1))), lead l + 1, 0)) ∧
    (¬ Agree (val (l.take (lead l + 1))) n (7 * (lead l + 1)) → sRes l n = (0, 0, 2)) := by
  obtain ⟨hm1, hmi⟩ := most_inl n h0
  have hib := inl_bounds n h0
  have hg : gath l (most n) = (gv l (lead l + 1), lead l + 1, 0) := by
    unfold gath
    rw [if_neg (by omega), if_neg (by omega)]
  have hlt := val_take_lt l (lead l + 1)
  have hs10 : lead l + 1 ≤ 10 := by unfold most at hm; omega
  have hext : ext (gv l (lead l + 1) : Nat) (((lead l + 1 : Nat) : Int) * 7) = wrap64 (sgn (val (l.take (lead l + 1))) (7 * (lead l + 1))) := by
    unfold gv
    exact ext_sgn _ _ (by omega) hs10 (by rw [pow7]; exact hlt)
  have hmost : lead l + 1 = most n → (csB (l.getD (most n - 1) 0 : Nat) (inl n : Nat) = true ↔ Agree (val (l.take (lead l + 1))) n (7 * (lead l + 1))) := by
    intro hs
    have hlast : l.getD (most n - 1) 0 = l[lead l] := by
      rw [← hs, Nat.add_sub_cancel, List.getD, List.getElem?_eq_getElem hl]; rfl
    have hx := lead_lt l hl
    have hv := val_take l (lead l) hl
    have hv0 := val_take_lt l (lead l)
    rw [Nat.mod_eq_of_lt hx] at hv
    rw [hlast, cs_agree _ _ hx hib.1 hib.2]
    unfold Agree
    rw [hv]
    have e0 : n - 1 = 7 * lead l + (inl n - 1) := by omega
    rw [e0, bitAt_high _ _ _ _ hv0]
    constructor
    · intro h i hi hi7
      have := h (i - 7 * lead l) (by omega) (by omega)
      rw [show i = 7 * lead l + (i - 7 * lead l) from by omega, bitAt_high _ _ _ _ hv0]
      exact this
    · intro h j hj hj7
      have := h (7 * lead l + j) (by omega) (by omega)
      rw [bitAt_high _ _ _ _ hv0] at this
      exact this
  unfold sRes
  rw [hg, if_pos rfl]
  simp only [hext]
  constructor
  · intro ha
    rw [if_neg]
    rintro ⟨h1, h2⟩
    rw [(hmost h1).2 ha] at h2
    cases h2
  · intro ha
    by_cases hs : lead l + 1 = most n
    · rw [if_pos]
      refine ⟨hs, ?_⟩
      cases hc : csB (l.getD (most n - 1) 0 : Nat) (inl n : Nat) with
      | false => rfl
      | true => exact absurd ((hmost hs).1 hc) ha
    · exact absurd (fun i hi hi7 => by omega) ha
end Go.Proofs.Ytlbbnnljclndkaa.Leb
namespace Go.Proofs.Ytlbbnnljclndkaa.Leb
open Go.RowKit

/-- A call returns a signed number, how many bytes it has and its error, and changes nothing that was there. -/
def TellsS (w : World) (r : Int × Nat × Nat) (e : Ending) (w' : World) : Prop := e = .returned (.tuple #[.int .i64 r.1, .int .i64 (r.2.1 : Int), .int .i64 (r.2.2 : Int)]) ∧ Below w.heap.size w w'
theorem agree_step {V n k : Nat} (h : Agree V n k) (he : bitAt V k = bitAt V (n - 1)) : Agree V n (k + 1) := by
  intro i hi hi'
  rcases Nat.lt_or_ge i k with h1 | h1
  · exact h i hi h1
  · obtain rfl : i = k := by omega
    exact he
theorem Bits.drewN {w : World} {g V n : Nat} (h : Bits w g V n) (k : Nat) : Bits (w.drewN k) g V n := h
end Go.Proofs.Ytlbbnnljclndkaa.Leb
namespace Go.Proofs.Ytlbbnnljclndkaa.Leb
open Go.RowKit

/-- A number's lowest t pieces of seven bits, as bytes. -/
def pbr : Nat → Int → List Nat
  | 0, _ => []
  | 1, n => [(n % 128).toNat]
  | t + 2, n => ((n % 128).toNat + 128) :: pbr (t + 1) (n / 128)
def piece (n : Int) (t i : Nat) : Nat := (n / 2 ^ (7 * i) % 128).toNat + if i + 1 < t then 128 else 0
def pbq (n : Int) (t q : Nat) : List Nat := (List.range q).map (piece n t)
theorem pbq_all (t : Nat) (n : Int) : pbq n (t + 1) (t + 1) = pbr (t + 1) n := by
  induction t generalizing n with
  | zero => simp [pbq, pbr, piece, List.range_succ]
  | succ t ih =>
    have h := ih (n / 128)
    unfold pbq at h ⊢
    rw [List.range_succ_eq_map, List.map_cons, List.map_map]
    simp only [pbr]
    rw [← h]
    congr 1
    · simp [piece]
    · apply List.map_congr_left
      intro i _
      simp only [Function.comp, piece]
      rw [show 7 * i.succ = 7 + 7 * i from by omega, Int.pow_add, Int.ediv_ediv_of_nonneg (by omega)]
      by_cases hi : i + 1 < t + 1
      · rw [if_pos hi, if_pos (by omega)]; rfl
      · rw [if_neg hi, if_neg (by omega)]; rfl
theorem pbq_snoc (n : Int) (t q : Nat) : pbq n t (q + 1) = pbq n t q ++ [piece n t q] := by simp [pbq, List.range_succ]
theorem pbr_len (t : Nat) (n : Int) : (pbr t n).length = t := by
  induction t generalizing n with
  | zero => rfl
  | succ t ih => cases t with
    | zero => rfl
    | succ t => simp [pbr, ih]
theorem putSf_pbr (f : Nat) (n : Int) : putSf f n = pbr (putSf f n).length n := by
  induction f generalizing n with
  | zero => simp [putSf, pbr]
  | succ f ih =>
    simp only [putSf]
    split
    · simp [pbr]
    · have h1 := ih (n / 128)
      have h2 := (putSf_len f (n / 128)).1
      obtain ⟨k, hk⟩ : ∃ k, (putSf f (n / 128)).length = k + 1 := ⟨(putSf f (n / 128)).length - 1, by omega⟩
      rw [List.length_cons, hk]
      simp only [pbr]
      rw [hk] at h1
      rw [← h1]
theorem lead_pbr (t : Nat) (n : Int) : lead (pbr (t + 1) n) = t := by
  induction t generalizing n with
  | zero => simp [pbr, lead]; omega
  | succ t ih => simp only [pbr, lead]; rw [if_pos (by omega), ih]
theorem val_pbr (t : Nat) (n : Int) : ((val (pbr t n) : Nat) : Int) = n % 128 ^ t := by
  induction t generalizing n with
  | zero => simp [pbr, val]
  | succ t ih => cases t with
    | zero => simp [pbr, val]; omega
    | succ t =>
      have h := ih (n / 128)
      simp only [pbr, val]
      generalize val (pbr (t + 1) (n / 128)) = v at *
      generalize t + 1 = k at *
      have hp : (0 : Int) < 128 ^ k := Int.pow_pos (by omega)
      have h1 := Int.emod_add_mul_ediv n 128
      have h2 := Int.emod_add_mul_ediv (n / 128) (128 ^ k)
      have h3 := Int.emod_nonneg (n / 128) (show (128 : Int) ^ k ≠ 0 by omega)
      have h4 := Int.emod_lt_of_pos (n / 128) hp
      have h5 : n = (128 * (n / 128 % 128 ^ k) + n % 128) + 128 ^ k * 128 * (n / 128 / 128 ^ k) := by
        rw [Int.mul_comm (128 ^ k) 128, Int.mul_assoc]
        omega
      have h6 : n % (128 ^ k * 128) = 128 * (n / 128 % 128 ^ k) + n % 128 := by
        generalize hr : 128 * (n / 128 % 128 ^ k) + n % 128 = r at *
        rw [h5, Int.add_mul_emod_self_left]
        exact Int.emod_eq_of_lt (by omega) (by omega)
      rw [Int.pow_succ, h6, ← h]
      omega
/-- Fewer bytes are read, but as another number. -/
theorem sRes_fewer (n : Int) (t : Nat) (h1 : 1 ≤ t) (ht : t < (putS n).length) : ∃ x, sRes (pbr t n) 64 = (x, t, 0) ∧ x ≠ n := by
  have hlen := (putSf_len 9 n).2
  have ht9 : t ≤ 9 := by unfold putS at ht; omega
  obtain ⟨k, rfl⟩ : ∃ k, t = k + 1 := ⟨t - 1, by omega⟩
  have hm : most 64 = 10 := rfl
  have hg : gath (pbr (k + 1) n) (most 64) = (gv (pbr (k + 1) n) (k + 1), k + 1, 0) := by
    unfold gath
    rw [lead_pbr, if_neg (by omega), if_neg (by rw [pbr_len]; omega)]
  refine ⟨ext (gv (pbr (k + 1) n) (k + 1) : Nat) (((k + 1 : Nat) : Int) * 7), ?_, ?_⟩
  · unfold sRes
    rw [hg, if_pos rfl, if_neg]
    rintro ⟨h, _⟩
    simp only at h
    omega
  · intro he
    have hv := val_lt (pbr (k + 1) n)
    rw [pbr_len] at hv
    have ht' : (pbr (k + 1) n).take (k + 1) = pbr (k + 1) n := List.take_of_length_le (by rw [pbr_len]; omega)
    have hf := ext_fits (k + 1) (val (pbr (k + 1) n)) (by omega) (by omega) hv
    unfold gv at he
    rw [ht'] at he
    rw [he] at hf
    have := putSf_least 9 n (k + 1) (by omega) hf
    unfold putS at ht
    omega
theorem sRes_just (n : Int) (hn : -9223372036854775808 ≤ n ∧ n ≤ 9223372036854775807) : sRes (putS n) 64 = (n, (putS n).length, 0) := by
  have := sRes_put n 64 [] (by omega) (by omega) (by omega)
  rw [List.append_nil] at this
  exact this
theorem rem_eq (n : Int) (q : Nat) : (IntKind.u64.wrap (n / 2 ^ (7 * q))).tmod 128 = (((n / 2 ^ (7 * q) % 128).toNat : Nat) : Int) := by
  rw [IntKind.wrap_u64, Int.tmod_eq_emod_of_nonneg (by omega)]
  omega
theorem piece_lt (n : Int) (t i : Nat) : piece n t i < 256 := by unfold piece; split <;> omega
end Go.Proofs.Ytlbbnnljclndkaa.Leb
namespace Go.Proofs.Ytlbbnnljclndkaa.Leb
open Go.RowKit

theorem take_next {l l' : List Nat} {k : Nat} (h : k < l.length) (h' : k < l'.length) (ht : l.take k = l'.take k) (he : l[k] = l'[k]) : l.take (k + 1) = l'.take (k + 1) := by
  rw [List.take_succ_eq_append_getElem h, List.take_succ_eq_append_getElem h', ht, he]
end Go.Proofs.Ytlbbnnljclndkaa.Leb
namespace Go.Proofs.Ytlbbnnljclndkaa.Leb
open Go.RowKit

theorem awake_u : uRes [229, 142, 38, 9] 32 = (624485, 3, 0) := by decide +kernel
theorem awake_s : sRes [192, 187, 120] 32 = (-123456, 3, 0) := by decide +kernel
theorem bytes4 (w : World) (b x y z u : Nat) (hx : x < 256) (hy : y < 256) (hz : z < 256) (hu : u < 256)
    (h0 : w.cell? ⟨b, 0, none⟩ = some (.int .u8 (x : Int))) (h1 : w.cell? ⟨b, 1, none⟩ = some (.int .u8 (y : Int))) (h2 : w.cell? ⟨b, 2, none⟩ = some (.int .u8 (z : Int)))
    (h3 : w.cell? ⟨b, 3, none⟩ = some (.int .u8 (u : Int))) : Bytes w (b + 1) (some ⟨b, 0, none⟩) [x, y, z, u] := by
  refine ⟨by simp; omega, fun _ => ⟨b, 0, rfl, by omega, ?_⟩⟩
  intro j h
  match j, h with
  | 0, _ => exact h0
  | 1, _ => exact h1
  | 2, _ => exact h2
  | 3, _ => exact h3
theorem bytes3 (w : World) (b x y z : Nat) (hx : x < 256) (hy : y < 256) (hz : z < 256)
    (h0 : w.cell? ⟨b, 0, none⟩ = some (.int .u8 (x : Int))) (h1 : w.cell? ⟨b, 1, none⟩ = some (.int .u8 (y : Int))) (h2 : w.cell? ⟨b, 2, none⟩ = some (.int .u8 (z : Int))) :
    Bytes w (b + 1) (some ⟨b, 0, none⟩) [x, y, z] := by
  refine ⟨by simp; omega, fun _ => ⟨b, 0, rfl, by omega, ?_⟩⟩
  intro j h
  match j, h with
  | 0, _ => exact h0
  | 1, _ => exact h1
  | 2, _ => exact h2
end Go.Proofs.Ytlbbnnljclndkaa.Leb
namespace Go.Proofs.Ytlbbnnljclndkaa.Leb
open Go.RowKit

theorem putU_mono (a b : Nat) (h : a ≤ b) (hb : b < 18446744073709551616) : (putU a).length ≤ (putU b).length := by
  have h1 := (putUf_len 9 b).1
  have h2 : b < 128 ^ (putU b).length := by
    have h3 := val_lt (putU b)
    have h4 : val (putU b) = b := val_putUf 9 b (by omega)
    omega
  exact putUf_least 9 a _ h1 (by omega)
theorem putS_not (n : Int) (hn : -9223372036854775808 ≤ n ∧ n ≤ 9223372036854775807) : (putS (-1 - n)).length = (putS n).length := by
  have h1 := putSf_fits 9 n (by omega)
  have h2 := putSf_fits 9 (-1 - n) (by omega)
  have h3 := (putSf_len 9 n).1
  have h4 := (putSf_len 9 (-1 - n)).1
  have h5 := putSf_least 9 n _ h4 (by generalize (128 : Int) ^ ((putSf 9 (-1 - n)).length - 1) = P at *; omega)
  have h6 := putSf_least 9 (-1 - n) _ h3 (by generalize (128 : Int) ^ ((putSf 9 n).length - 1) = P at *; omega)
  unfold putS
  omega
theorem not64 (n : Int) (h : -9223372036854775808 ≤ n ∧ n ≤ 9223372036854775807) : bits .xor .i64 (-1) n = -1 - n := by
  show IntKind.i64.wrap ((BitVec.ofInt 64 (-1) ^^^ BitVec.ofInt 64 n).toNat : Int) = _
  have h1 : BitVec.ofInt 64 (-1) = BitVec.allOnes 64 := by decide
  rw [h1, BitVec.allOnes_xor, BitVec.toNat_not, BitVec.toNat_ofInt, IntKind.wrap_i64]
  omega
end Go.Proofs.Ytlbbnnljclndkaa.Leb
