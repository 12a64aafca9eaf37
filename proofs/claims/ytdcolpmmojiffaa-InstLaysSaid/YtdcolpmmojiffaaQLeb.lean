/-
  LebBase: Bytes in memory: what a slice leads to; how endings are told. No condition; nothing of the program but its name.
  LebBytes: Bytes in memory: what a slice of bytes that came in reads as; cut, and behind a call that changes nothing that was there. Conditions as each lemma says.
  LebOwn: Bytes that a call made itself: a slice value that owns them; append onto them from bytes in memory; how they read. Conditions as each lemma says.
  LebMath: Plain arithmetic of numbers in pieces of seven bits: what bytes are worth, how many lead, what is gathered. No condition; nothing of the program.
  LebRefMath: Plain arithmetic of the bits of bytes in pieces of seven, the lowest first, as the reference reads them. No condition but those that each lemma names; nothing of the program.
  LebRead: trammelref01.most, trammelref01.Read: what each comes to: how many bytes, and the bits, the lowest first. Conditions: the bytes lie in memory as a slice's cells.
  LebGather: leb.most, leb.inLast, leb.gather: what each comes to. Conditions: the bytes lie in memory as a slice's cells; the number of bits is from 1 to 64, or it is not.
  LebU: leb.U: what it comes to. Conditions: the bytes lie in memory as a slice's cells.
  LebPutMath: Plain arithmetic of what leb.PutU and leb.PutS put: how long it is, what it is worth, how it is read back. No condition but those that each lemma names; nothing of the program.
  LebBackU: Plain arithmetic: what leb.PutU puts is read back by leb.U. Conditions as each lemma says; nothing of the program runs.
  LebRefU: trammelref01.U comes to what leb.U comes to. Conditions: the bytes lie in memory as a slice's cells; the number of bits is from 1 to 64, or it is not.
  LebPut: leb.fresh, leb.PutU: what each comes to: new bytes, the given ones and, behind them, the number's. Condition: the given bytes lie in memory as a slice's cells, and are fewer than 2^46.
  LebPutS: leb.PutS: what it comes to: new bytes, the given ones and, behind them, the number's. Condition: the given bytes lie in memory as a slice's cells, and are fewer than 2^46.
  LebRefPut: trammelref01.Copy, Same, PutU: what each comes to. Conditions: the given bytes lie in memory as a slice's cells, and are fewer than 2^46.
  LebS: leb.carriesSign, leb.extend, leb.S: what each comes to. Conditions: the bytes lie in memory as a slice's cells.
  LebBackMath: Plain arithmetic: what leb.PutU and leb.PutS put is read back by leb.U and leb.S, and nothing shorter is read as the same. Conditions as each lemma says; nothing of the program runs.
  LebSignMath: Plain arithmetic of the sign: what the reference's bits come to, signed, is what leb.S's extend comes to; its test of the bits beyond is leb.S's. Conditions as each lemma says; nothing of the program runs.
  LebRefS: trammelref01.S comes to what leb.S comes to. Conditions: the bytes lie in memory as a slice's cells; the number of bits is from 1 to 64, or it is not.
  LebRefPutS: trammelref01.PutS comes to what leb.PutS puts: the fewest bytes that are read as the number. No condition but that the number has 64 bits.
  LebSame: trammelref01.Same: it tells whether two lists of bytes are the same. Conditions: both lie in memory as a slice's cells, and are fewer than 2^47.
  LebAwake: trammellaw01.awake: it answers true, and changes nothing that was there. No condition.
  LebLengthLaw: trammellaw01.LebLength answers true for every two unsigned numbers and every signed one of 64 bits. No other condition.
-/
import Derived.Test.YtdcolpmmojiffaaChecked
import Derived.WalkKit
import Derived.Below
import Derived.Lib.Hide
import Derived.Outline
import Derived.IntWalk
import Derived.Deep.QuietTactic
import Derived.BigQuiet
import Derived.Deep.Draws
import Derived.OpenShut
import Derived.Maps.AppendAt
import Derived.Laws.AppendOwnNone
import Derived.Laws.OwnMore
import Derived.OwnWalk
import Derived.Laws.BitsAllLaws
namespace Go.Proofs.Ytdcolpmmojiffaa.Leb
open Go.RowKit

def Bytes (w : World) (B : Nat) (A : Option Addr) (l : List Nat) : Prop :=
  (∀ x ∈ l, x < 256) ∧ (0 < l.length → ∃ b off, A = some ⟨b, off, none⟩ ∧ b < B ∧ ∀ (j : Nat) (h : j < l.length), w.cell? ⟨b, off + j, none⟩ = some (.int .u8 (l[j] : Nat)))

theorem ret_bool {a b : Bool} (h : a = b) : Ending.returned (.bool a) = .returned (.bool b) := by rw [h]
end Go.Proofs.Ytdcolpmmojiffaa.Leb
namespace Go.Proofs.Ytdcolpmmojiffaa.Leb
open Go.RowKit

theorem below_drewN {B : Nat} {a w : World} (h : Below B a w) (n : Nat) : Below B a (w.drewN n) := ⟨h.os, h.tape, h.output, h.size, h.block⟩

def RowIn (k : IntKind) (w : World) (a : Option Addr) (len cap : Nat) (zs : List Int) : Prop :=
  (a = none ∧ len = 0 ∧ cap = 0 ∧ zs = []) ∨
  ∃ x, a = some x ∧ len ≤ cap ∧ cap ≤ maxLen ∧ zs.length = cap ∧ (∀ i, i < zs.length → w.cell? (x.add i) = some (.int k (zs.getD i 0))) ∧ ∀ n ∈ zs, (Lit.int k n).wf = true

theorem bytes_of_row {w : World} {a : Option Addr} {len cap : Nat} {zs : List Int} (h : RowIn .u8 w a len cap zs) :
    ∃ l : List Nat, l.length = len ∧ Bytes w w.heap.size a l ∧ len ≤ cap ∧ cap ≤ maxLen := by
  rcases h with ⟨rfl, rfl, rfl, rfl⟩ | ⟨x, rfl, hl, hm, hz, hcell, hwf⟩
  · exact ⟨[], rfl, ⟨by simp, by simp⟩, Nat.le_refl _, by simp [maxLen]⟩
  · have hb : ∀ n ∈ zs, 0 ≤ n ∧ n ≤ 255 := by
      intro n hn
      have := bounds_u8 (hwf n hn)
      omega
    refine ⟨(zs.take len).map Int.toNat, by simp; omega, ⟨?_, ?_⟩, hl, hm⟩
    · intro y hy
      obtain ⟨n, hn, rfl⟩ := List.mem_map.1 hy
      have := hb n (List.mem_of_mem_take hn)
      omega
    · intro hlen
      have hlen' : 0 < len := by simp at hlen; omega
      have h0 := hcell 0 (by omega)
      obtain ⟨b, off, spot⟩ := x
      have hspot : spot = none := by simpa [Addr.add] using World.cell?_spot h0
      subst hspot
      have hblk : b < w.heap.size := by
        have := World.block_lt_of_cell? w _ h0
        simpa [Addr.add] using this
      refine ⟨b, off, rfl, hblk, ?_⟩
      intro j hj
      have hj' : j < len ∧ j < zs.length := by simp at hj; omega
      have hc := hcell j hj'.2
      have hn := hb _ (List.getElem_mem hj'.2)
      have e1 : zs.getD j 0 = zs[j] := by simp [List.getD, List.getElem?_eq_getElem hj'.2]
      rw [e1] at hc
      have e2 : ((((zs.take len).map Int.toNat)[j] : Nat) : Int) = zs[j] := by simp; omega
      rw [e2]
      by_cases h0 : j = 0
      · subst h0; simpa [Addr.add] using hc
      · simpa [Addr.add, h0] using hc
theorem Bytes.take {w : World} {B : Nat} {A : Option Addr} {l : List Nat} (h : Bytes w B A l) (k : Nat) : Bytes w B A (l.take k) := by
  refine ⟨fun x hx => h.1 x (List.mem_of_mem_take hx), fun hl => ?_⟩
  have hl' : 0 < l.length := by simp at hl; omega
  obtain ⟨b, off, e, hb, hc⟩ := h.2 hl'
  refine ⟨b, off, e, hb, fun j hj => ?_⟩
  have hj' : j < l.length := by simp at hj; omega
  rw [hc j hj']
  simp
theorem Bytes.below {w w' : World} {B : Nat} {A : Option Addr} {l : List Nat} (h : Bytes w B A l) (hb : Below B w w') : Bytes w' B A l := by
  refine ⟨h.1, fun hl => ?_⟩
  obtain ⟨b, off, e, hB, hc⟩ := h.2 hl
  exact ⟨b, off, e, hB, fun j hj => (hb.cell hB).trans (hc j hj)⟩
theorem Bytes.drewN {w : World} {B : Nat} {A : Option Addr} {l : List Nat} (h : Bytes w B A l) (n : Nat) : Bytes (w.drewN n) B A l := h
theorem Bytes.more {w : World} {B B' : Nat} {A : Option Addr} {l : List Nat} (h : Bytes w B A l) (hB : B ≤ B') : Bytes w B' A l :=
  ⟨h.1, fun hl => by
    obtain ⟨b, off, e, hb, hc⟩ := h.2 hl
    exact ⟨b, off, e, by omega, hc⟩⟩
end Go.Proofs.Ytdcolpmmojiffaa.Leb
namespace Go.Proofs.Ytdcolpmmojiffaa.Leb
open Go.RowKit

def bv (x : Nat) : Value := .int .u8 (x : Int)
theorem u8_info : (Try.prog.info? 5).map (fun i => (i.zero, i.size, i.bytes)) = some (some (.int .u8 0), 1, 1) := by kernel_rfl
def Own (w : World) (base : Nat) (v : Value) (l : List Nat) : Prop := w.ownsRow base 5 1 v l.length (l.map bv)
theorem Own.alloc {w : World} {base : Nat} {v : Value} {l : List Nat} (h : Own w base v l) (o : Obj) : Own (w.alloc o) base v l := World.ownsRow.alloc h o
theorem Own.drewN {w : World} {base : Nat} {v : Value} {l : List Nat} (h : Own w base v l) (n : Nat) : Own (w.drewN n) base v l := h
theorem Own.nil (w : World) (base : Nat) : Own w base (.slice none 0 0) [] := World.ownsRow_nil _ _ _ _
theorem Own.keep {w w' : World} {base B : Nat} {v : Value} {l : List Nat} (h : Own w base v l) (hb : Below B w w') (hB : ∀ k, v.ownBlock = some k → k < B) : Own w' base v l := by
  refine ⟨h.1, ?_⟩
  rcases h.2 with ⟨rfl, h0⟩ | ⟨g, cap, cur, rfl, h1, h2, h3, h4, h5⟩
  · exact .inl ⟨rfl, h0⟩
  · exact .inr ⟨g, cap, cur, rfl, h1, (hb.block g (hB g rfl)).trans h2, h3, h4, h5⟩
theorem Own.lt {w : World} {base : Nat} {v : Value} {l : List Nat} (h : Own w base v l) : ∀ k, v.ownBlock = some k → k < w.heap.size := fun k hk => (World.ownsRow.lt h k hk).2
theorem Own.bytes {w : World} {base : Nat} {v : Value} {l : List Nat} (h : Own w base v l) (hl : ∀ x ∈ l, x < 256) :
    ∃ A cap, v = .slice A l.length cap ∧ Bytes w w.heap.size A l ∧ l.length ≤ cap ∧ (A = none → cap = 0) := by
  have hlt := h.lt
  rcases h.2 with ⟨rfl, h0⟩ | ⟨g, cap, cur, rfl, h1, h2, h3, h4, h5⟩
  · refine ⟨none, 0, by rw [h0], ⟨hl, fun h => by omega⟩, by omega, fun _ => rfl⟩
  · refine ⟨some ⟨g, 0, none⟩, cap, rfl, ⟨hl, fun _ => ⟨g, 0, rfl, hlt g rfl, fun j hj => ?_⟩⟩, h3, fun h => by cases h⟩
    have hc := World.ownsRow.cellAt h j (by omega)
    rw [Nat.zero_add, hc]
    simp [bv, hj]
theorem bv_oneCell (l : List Nat) : ∀ u ∈ l.map bv, u.oneCell' = true := by
  intro u hu
  obtain ⟨x, _, rfl⟩ := List.mem_map.1 hu
  rfl
theorem below_own {w w' : World} {base : Nat} {v : Value} {l : List Nat} (h : Own w base v l) (hb : base ≤ w.heap.size) (hg : w.grownBy w' v.ownBlock) : Below base w w' :=
  (Below.refl _ _).grown hg hb (fun k hk => (World.ownsRow.lt h k hk).1)
section
variable {w : World} {ops : Array Oper} {rest : List Oper} {o : Oper} {a : Act} {Q : Exit → Act → World → Prop}
set_option maxRecDepth 100000 in
theorem app_bytes (hgd : o.guard = none) (s x : Operand) (ho : o.op = .call { callee := .builtin .append, args := #[s, x], argTypes := #[22, 22] })
    (base : Nat) (v : Value) (l : List Nat) (hs : a.eval s = v) (hown : Own w base v l) (A : Option Addr) (l' : List Nat) (c B : Nat) (hx : a.eval x = .slice A l'.length c) (hr : Bytes w B A l') (hc : A = none → c = 0)
    (hlen : l.length + l'.length ≤ 140737488355328) (hbase : base ≤ w.heap.size)
    (h : ∀ v' w', Own w' base v' (l ++ l') → Below base w w' → wpList Try.prog ops Q rest (a.put o.dst v') w') : wpList Try.prog ops Q (o :: rest) a w := by
  obtain ⟨i0, hi0, hz0, hz1, hz2⟩ := info_parts u8_info
  cases A with
  | none =>
    have hl0 : l' = [] := by
      rcases Nat.eq_zero_or_pos l'.length with h0 | h0
      · exact List.eq_nil_of_length_eq_zero h0
      · obtain ⟨b, off, he, _⟩ := hr.2 h0
        cases he
    subst hl0
    have hc0 := hc rfl
    subst hc0
    exact wpList_append_own_none hgd s x _ ho base 5 i0 1 Try.underlying22 hi0 v l.length (l.map bv) hs hown hx (h v w (by rw [List.append_nil]; exact hown) (Below.refl _ _))
  | some ad =>
    refine wpList_append_own_at w hgd s x _ ho base 5 i0 (.int .u8 0) 1 1 Try.underlying22 hi0 hz0 hz1 hz2 rfl (by omega) v l.length (l.map bv) hs hown ad l'.length c (l'.map bv) hx (by simp) ?_ (bv_oneCell l') (by simp only [maxLen]; omega) (by omega) hbase ?_
    · intro j u hu
      have hj : j < l'.length := by
        rcases Nat.lt_or_ge j l'.length with hj | hj
        · exact hj
        · rw [List.getElem?_eq_none (by simpa using hj)] at hu; cases hu
      obtain ⟨b, off, he, _, hcell⟩ := hr.2 (by omega)
      injection he with he
      subst he
      have := hcell j hj
      rw [List.getElem?_map, List.getElem?_eq_getElem hj] at hu
      simp at hu
      subst hu
      by_cases h0 : j = 0
      · subst h0; simpa [Addr.add, bv] using this
      · simpa [Addr.add, h0, bv] using this
    · intro v' w' h1 h2 _ _
      refine h v' w' ?_ (below_own hown hbase h2)
      unfold Own
      rw [List.length_append, List.map_append]
      exact h1
end
def Gives (w : World) (l : List Nat) (e : Ending) (w' : World) : Prop := ∃ v, e = .returned v ∧ Own w' w.heap.size v l ∧ Below w.heap.size w w'
def GivesB (w : World) (l : List Nat) (k : Nat) (e : Ending) (w' : World) : Prop :=
  ∃ A c, e = .returned (.slice A k c) ∧ Own w' w.heap.size (.slice A k c) l ∧ Bytes w' w'.heap.size A l ∧ (A = none → c = 0) ∧ k ≤ c ∧ Below w.heap.size w w'
theorem gives_b {P : Program} {f : FuncId} {args : Array Value} {w : World} {l : List Nat} {k : Nat} (h : Calls P f args w (Gives w l)) (hl : ∀ x ∈ l, x < 256) (hk : l.length = k) : Calls P f args w (GivesB w l k) := by
  refine h.mono ?_
  rintro e w' ⟨v, rfl, hown, hbel⟩
  subst hk
  obtain ⟨A, c, rfl, hb, hc, h0⟩ := hown.bytes hl
  exact ⟨A, c, rfl, hown, hb, h0, hc, hbel⟩
end Go.Proofs.Ytdcolpmmojiffaa.Leb
namespace Go.Proofs.Ytdcolpmmojiffaa.Leb

def val : List Nat → Nat
  | [] => 0
  | x :: l => x % 128 + 128 * val l
def lead : List Nat → Nat
  | [] => 0
  | x :: l => if 128 ≤ x then lead l + 1 else 0
def most (bits : Nat) : Nat := (bits + 6) / 7

theorem val_snoc (l : List Nat) (x : Nat) : val (l ++ [x]) = val l + x % 128 * 128 ^ l.length := by
  induction l with
  | nil => simp [val]
  | cons y l ih =>
    simp only [List.cons_append, val, ih, List.length_cons, Nat.pow_succ, Nat.mul_add]
    have : 128 * (x % 128 * 128 ^ l.length) = x % 128 * (128 ^ l.length * 128) := by
      rw [Nat.mul_comm 128, Nat.mul_assoc]
    omega
theorem val_lt (l : List Nat) : val l < 128 ^ l.length := by
  induction l with
  | nil => simp [val]
  | cons y l ih => simp only [val, List.length_cons, Nat.pow_succ]; omega
theorem lead_le (l : List Nat) : lead l ≤ l.length := by
  induction l with
  | nil => simp [lead]
  | cons y l ih => simp only [lead, List.length_cons]; split <;> omega
theorem lead_step (l : List Nat) (k : Nat) (hk : k < l.length) (h : k ≤ lead l) : (128 ≤ l[k] → k + 1 ≤ lead l) ∧ (l[k] < 128 → lead l = k) := by
  induction l generalizing k with
  | nil => simp at hk
  | cons y l ih =>
    cases k with
    | zero =>
      simp only [List.getElem_cons_zero, lead]
      constructor
      · intro hy; rw [if_pos hy]; omega
      · intro hy; rw [if_neg (by omega)]
    | succ k =>
      simp only [lead] at h ⊢
      split at h
      · rename_i hy
        have := ih k (by simpa using hk) (by omega)
        simp only [List.getElem_cons_succ]
        rw [if_pos hy]
        exact ⟨fun a => by have := this.1 a; omega, fun a => by have := this.2 a; omega⟩
      · omega
theorem lead_lt (l : List Nat) (h : lead l < l.length) : l[lead l] < 128 := by
  rcases Nat.lt_or_ge (l[lead l]) 128 with hx | hx
  · exact hx
  · have := (lead_step l (lead l) h (Nat.le_refl _)).1 hx; omega
theorem pow7 (k : Nat) : 128 ^ k = 2 ^ (7 * k) := by rw [Nat.pow_mul]
theorem take_snoc (l : List Nat) (k : Nat) (h : k < l.length) : l.take (k + 1) = l.take k ++ [l[k]] := List.take_succ_eq_append_getElem h
theorem val_take (l : List Nat) (k : Nat) (h : k < l.length) : val (l.take (k + 1)) = val (l.take k) + l[k] % 128 * 2 ^ (7 * k) := by
  rw [take_snoc l k h, val_snoc, ← pow7]
  simp [Nat.min_eq_left (Nat.le_of_lt h)]
theorem val_take_lt (l : List Nat) (k : Nat) : val (l.take k) < 2 ^ (7 * k) := by
  refine Nat.lt_of_lt_of_le (val_lt _) ?_
  rw [pow7]
  exact Nat.pow_le_pow_right (by omega) (by have : (l.take k).length ≤ k := List.length_take_le _ _; omega)

def big : Nat := 18446744073709551616
def gv (l : List Nat) (k : Nat) : Nat := val (l.take k) % big
end Go.Proofs.Ytdcolpmmojiffaa.Leb
namespace Go.Proofs.Ytdcolpmmojiffaa.Leb

def bitAt (V i : Nat) : Bool := V / 2 ^ i % 2 == 1
def bitList (V n : Nat) : List Bool := (List.range n).map (bitAt V)
theorem bitList_get (V n i : Nat) (h : i < n) : (bitList V n)[i]? = some (bitAt V i) := by simp [bitList, h]
end Go.Proofs.Ytdcolpmmojiffaa.Leb
namespace Go.Proofs.Ytdcolpmmojiffaa.Leb
open Go.RowKit

def OwnB (w : World) (base : Nat) (v : Value) (V n : Nat) : Prop := w.ownsRow base 4 1 v n ((bitList V n).map Value.bool)
theorem OwnB.alloc {w : World} {base : Nat} {v : Value} {V n : Nat} (h : OwnB w base v V n) (o : Obj) : OwnB (w.alloc o) base v V n := World.ownsRow.alloc h o
def Bits (w : World) (g V n : Nat) : Prop := g < w.heap.size ∧ ∀ j, j < n → w.cell? ⟨g, j, none⟩ = some (.bool (bitAt V j))
theorem OwnB.bits {w : World} {base : Nat} {v : Value} {V n : Nat} (h : OwnB w base v V n) (hn : 0 < n) : ∃ g cap, v = .slice (some ⟨g, 0, none⟩) n cap ∧ Bits w g V n := by
  have hlt := World.ownsRow.lt h
  rcases h.2 with ⟨rfl, h0⟩ | ⟨g, cap, cur, rfl, h1, h2, h3, h4, h5⟩
  · omega
  · refine ⟨g, cap, rfl, (hlt g rfl).2, fun j hj => ?_⟩
    have hc := World.ownsRow.cellAt h j (by omega)
    rw [hc, List.getElem?_map, bitList_get V n j hj]
    rfl
section
variable {w : World} {ops : Array Oper} {rest : List Oper} {o : Oper} {a : Act} {Q : Exit → Act → World → Prop}
end
end Go.Proofs.Ytdcolpmmojiffaa.Leb
namespace Go.Proofs.Ytdcolpmmojiffaa.Leb
open Go.RowKit

def gath (l : List Nat) (m : Nat) : Nat × Nat × Nat :=
  if m ≤ lead l then (0, 0, 2) else if lead l = l.length then (0, 0, 1) else (gv l (lead l + 1), lead l + 1, 0)

end Go.Proofs.Ytdcolpmmojiffaa.Leb
namespace Go.Proofs.Ytdcolpmmojiffaa.Leb
open Go.RowKit

def inl (n : Nat) : Nat := n - (most n - 1) * 7
def uRes (l : List Nat) (n : Nat) : Nat × Nat × Nat :=
  if (gath l (most n)).2.2 = 0 then
    if (gath l (most n)).2.1 = most n ∧ l.getD (most n - 1) 0 / 2 ^ inl n ≠ 0 then (0, 0, 2) else gath l (most n)
  else (0, 0, (gath l (most n)).2.2)
theorem inl_bounds (n : Nat) (h0 : 1 ≤ n) : 1 ≤ inl n ∧ inl n ≤ 7 := by unfold inl most; omega
theorem gath_cases (l : List Nat) (m : Nat) : ∃ v s e, gath l m = (v, s, e) ∧ (e = 0 ∨ e = 1 ∨ e = 2) ∧ (e = 0 → 1 ≤ s ∧ s ≤ m ∧ s ≤ l.length) := by
  unfold gath
  have := lead_le l
  split
  · exact ⟨_, _, _, rfl, by omega, by omega⟩
  · split
    · exact ⟨_, _, _, rfl, by omega, by omega⟩
    · exact ⟨_, _, _, rfl, by omega, by omega⟩
section
variable (A : Option Addr) (len cap n v s : Nat) (w : World)
end
section
variable (b off len cap n v s x : Nat) (w : World)
end
end Go.Proofs.Ytdcolpmmojiffaa.Leb
namespace Go.Proofs.Ytdcolpmmojiffaa.Leb

def putUf : Nat → Nat → List Nat
  | 0, n => [n % 128]
  | f + 1, n => if n < 128 then [n] else (n % 128 + 128) :: putUf f (n / 128)
def putU (n : Nat) : List Nat := putUf 9 n
def putSf : Nat → Int → List Nat
  | 0, n => [(n % 128).toNat]
  | f + 1, n => if -64 ≤ n ∧ n < 64 then [(n % 128).toNat] else ((n % 128).toNat + 128) :: putSf f (n / 128)
def putS (n : Int) : List Nat := putSf 9 n

theorem putUf_byte (f n : Nat) : ∀ x ∈ putUf f n, x < 256 := by
  induction f generalizing n with
  | zero => intro x hx; simp [putUf] at hx; omega
  | succ f ih =>
    intro x hx
    simp only [putUf] at hx
    split at hx
    · simp at hx; omega
    · rcases List.mem_cons.1 hx with rfl | hx
      · omega
      · exact ih _ x hx
theorem putUf_len (f n : Nat) : 1 ≤ (putUf f n).length ∧ (putUf f n).length ≤ f + 1 := by
  induction f generalizing n with
  | zero => simp [putUf]
  | succ f ih => simp only [putUf]; split <;> simp; have := ih (n / 128); omega
theorem lead_putUf (f n : Nat) (more : List Nat) : lead (putUf f n ++ more) + 1 = (putUf f n).length := by
  induction f generalizing n with
  | zero => simp [putUf, lead]; omega
  | succ f ih =>
    simp only [putUf]
    split
    · rename_i h; simp [lead]; omega
    · have := ih (n / 128)
      simp only [List.cons_append, lead, List.length_cons]
      rw [if_pos (by omega)]
      omega
theorem val_putUf (f n : Nat) (h : n < 128 ^ (f + 1)) : val (putUf f n) = n := by
  induction f generalizing n with
  | zero => simp [putUf, val]; simp at h; omega
  | succ f ih =>
    simp only [putUf]
    split
    · simp [val]; omega
    · have := ih (n / 128) (by rw [Nat.pow_succ] at h; omega)
      simp only [val, this]
      omega
theorem putUf_least (f n k : Nat) (hk : 1 ≤ k) (h : n < 128 ^ k) : (putUf f n).length ≤ k := by
  induction f generalizing n k with
  | zero => simp [putUf]; exact hk
  | succ f ih =>
    simp only [putUf]
    split
    · simp; exact hk
    · rename_i hn
      cases k with
      | zero => omega
      | succ k =>
        rcases Nat.eq_zero_or_pos k with h0 | h0
        · subst h0; simp at h; omega
        · have := ih (n / 128) k h0 (by rw [Nat.pow_succ] at h; omega)
          simp only [List.length_cons]; omega
end Go.Proofs.Ytdcolpmmojiffaa.Leb
namespace Go.Proofs.Ytdcolpmmojiffaa.Leb
open Go.RowKit

theorem take_put (l more : List Nat) : (l ++ more).take l.length = l := by simp
theorem getD_put (l more : List Nat) (h : 1 ≤ l.length) : (l ++ more).getD (l.length - 1) 0 = l.getD (l.length - 1) 0 := by
  simp [List.getD, List.getElem?_append_left (show l.length - 1 < l.length by omega)]
theorem last_putUf (f n : Nat) (h : n < 128 ^ (f + 1)) : (putUf f n).getD ((putUf f n).length - 1) 0 = n / 128 ^ ((putUf f n).length - 1) := by
  induction f generalizing n with
  | zero => simp [putUf]; simp at h; omega
  | succ f ih =>
    simp only [putUf]
    split
    · simp
    · have h1 := ih (n / 128) (by rw [Nat.pow_succ] at h; omega)
      have h2 := (putUf_len f (n / 128)).1
      obtain ⟨k, hk⟩ : ∃ k, (putUf f (n / 128)).length = k + 1 := ⟨(putUf f (n / 128)).length - 1, by omega⟩
      rw [hk] at h1
      simp only [List.length_cons, hk, Nat.add_sub_cancel] at h1 ⊢
      rw [List.getD_cons_succ, h1, Nat.pow_succ, Nat.mul_comm, Nat.div_div_eq_div_mul]
theorem most_inl (n : Nat) (h : 1 ≤ n) : 1 ≤ most n ∧ n = 7 * (most n - 1) + inl n := by unfold inl most; omega
theorem uRes_put (n b : Nat) (more : List Nat) (h0 : 1 ≤ b) (h64 : b ≤ 64) (hn : n < 2 ^ b) : uRes (putU n ++ more) b = (n, (putU n).length, 0) := by
  obtain ⟨hm1, hmi⟩ := most_inl b h0
  have hp : (2 : Nat) ^ b ≤ 2 ^ 64 := Nat.pow_le_pow_right (by omega) h64
  have h70 : n < 128 ^ 10 := by omega
  have hlen := putUf_len 9 n
  have hln : 1 ≤ (putU n).length := hlen.1
  have hle : (putU n).length ≤ most b := putUf_least 9 n _ hm1 (by
    rw [pow7]
    exact Nat.lt_of_lt_of_le hn (Nat.pow_le_pow_right (by omega) (by have := inl_bounds b h0; omega)))
  have hl : lead (putU n ++ more) + 1 = (putU n).length := lead_putUf 9 n more
  have hg : gath (putU n ++ more) (most b) = (n, (putU n).length, 0) := by
    unfold gath
    rw [if_neg (by omega), if_neg (by simp; omega), hl]
    unfold gv
    rw [take_put, show val (putU n) = n from val_putUf 9 n h70, Nat.mod_eq_of_lt (by unfold big; omega)]
  unfold uRes
  rw [hg, if_pos rfl, if_neg]
  rintro ⟨h1, h2⟩
  simp only at h1
  apply h2
  rw [← h1, getD_put _ _ hln, show (putU n).getD ((putU n).length - 1) 0 = n / 128 ^ ((putU n).length - 1) from last_putUf 9 n h70, h1, pow7, Nat.div_div_eq_div_mul, ← Nat.pow_add, ← hmi]
  exact Nat.div_eq_of_lt hn
end Go.Proofs.Ytdcolpmmojiffaa.Leb
namespace Go.Proofs.Ytdcolpmmojiffaa.Leb
open Go.RowKit

theorem uRes_val (l : List Nat) (n : Nat) (h0 : 1 ≤ n) (h64 : n ≤ 64) (hm : lead l < most n) (hl : lead l < l.length) :
    uRes l n = if val (l.take (lead l + 1)) < 2 ^ n then (val (l.take (lead l + 1)), lead l + 1, 0) else (0, 0, 2) := by
  obtain ⟨hm1, hmi⟩ := most_inl n h0
  have hg : gath l (most n) = (gv l (lead l + 1), lead l + 1, 0) := by
    unfold gath
    rw [if_neg (by omega), if_neg (by omega)]
  have hlt := val_take_lt l (lead l + 1)
  have h2 : (2 : Nat) ^ n ≤ 2 ^ 64 := Nat.pow_le_pow_right (by omega) h64
  unfold uRes
  rw [hg, if_pos rfl]
  by_cases hs : lead l + 1 = most n
  · have hlast : l.getD (most n - 1) 0 = l[lead l] := by
      rw [← hs, Nat.add_sub_cancel, List.getD, List.getElem?_eq_getElem hl]; rfl
    have hx := lead_lt l hl
    have hv := val_take l (lead l) hl
    have hv0 := val_take_lt l (lead l)
    rw [Nat.mod_eq_of_lt hx] at hv
    have e : (2 : Nat) ^ n = 2 ^ (7 * lead l) * 2 ^ inl n := by rw [← Nat.pow_add]; congr 1; omega
    have hiff : val (l.take (lead l + 1)) < 2 ^ n ↔ l[lead l] / 2 ^ inl n = 0 := by
      rw [Nat.div_eq_zero_iff_lt (Nat.pow_pos (by omega)), hv, e]
      constructor
      · intro h
        rcases Nat.lt_or_ge l[lead l] (2 ^ inl n) with h3 | h3
        · exact h3
        · have := Nat.mul_le_mul_left (2 ^ (7 * lead l)) h3
          rw [Nat.mul_comm (2 ^ (7 * lead l)) l[lead l]] at this
          omega
      · intro h
        have h3 : (l[lead l] + 1) * 2 ^ (7 * lead l) ≤ 2 ^ inl n * 2 ^ (7 * lead l) := Nat.mul_le_mul_right _ h
        rw [Nat.add_mul, Nat.mul_comm (2 ^ inl n)] at h3
        omega
    by_cases hc : val (l.take (lead l + 1)) < 2 ^ n
    · rw [if_pos hc, if_neg (by rw [hlast]; exact fun h => h.2 (hiff.1 hc))]
      unfold gv
      rw [Nat.mod_eq_of_lt (by unfold big; omega)]
    · rw [if_neg hc, if_pos ⟨hs, by rw [hlast]; exact fun h => hc (hiff.2 h)⟩]
  · have hp : (2 : Nat) ^ (7 * (lead l + 1)) ≤ 2 ^ n := Nat.pow_le_pow_right (by omega) (by omega)
    rw [if_neg (fun h => hs h.1), if_pos (by omega)]
    unfold gv
    rw [Nat.mod_eq_of_lt (by unfold big; omega)]
theorem uRes_32 (l : List Nat) (h : (uRes l 32).2.2 = 0) : (uRes l 32).1 < 4294967296 ∧ 1 ≤ (uRes l 32).2.1 ∧ (uRes l 32).2.1 ≤ l.length := by
  obtain ⟨v, s, e, hg, _, hs⟩ := gath_cases l (most 32)
  by_cases he : e = 0
  · subst he
    obtain ⟨hs1, hsm, hsl⟩ := hs rfl
    have hlead : lead l < most 32 ∧ lead l < l.length := by
      unfold gath at hg
      have hl := lead_le l
      by_cases h1 : most 32 ≤ lead l
      · rw [if_pos h1] at hg; simp at hg
      · rw [if_neg h1] at hg
        by_cases h2 : lead l = l.length
        · rw [if_pos h2] at hg; simp at hg
        · omega
    have hv := uRes_val l 32 (by omega) (by omega) hlead.1 hlead.2
    by_cases hc : val (l.take (lead l + 1)) < 2 ^ 32
    · rw [if_pos hc] at hv
      rw [hv]
      exact ⟨hc, by simp, by simp; omega⟩
    · rw [if_neg hc] at hv
      rw [hv] at h
      simp at h
  · unfold uRes at h
    rw [hg, if_neg he] at h
    exact absurd h he
end Go.Proofs.Ytdcolpmmojiffaa.Leb
namespace Go.Proofs.Ytdcolpmmojiffaa.Leb
open Go.RowKit

end Go.Proofs.Ytdcolpmmojiffaa.Leb
namespace Go.Proofs.Ytdcolpmmojiffaa.Leb
open Go.RowKit

end Go.Proofs.Ytdcolpmmojiffaa.Leb
namespace Go.Proofs.Ytdcolpmmojiffaa.Leb
open Go.RowKit

theorem own_empty (w : World) : Own (w.alloc (.cells #[] 5)) w.heap.size (.slice (some ⟨w.heap.size, 0, none⟩) 0 0) [] :=
  World.ownsRow_lit w #[] 0 (Nat.le_refl _) (by simp [maxLen]) rfl
theorem copy_any (A : Option Addr) (l : List Nat) (c : Nat) (w : World) (hb : Bytes w w.heap.size A l) (hc : A = none → c = 0) (hl : l.length ≤ 70368744177664) :
    Calls Try.prog 16 #[.slice A l.length c] w (Gives w l) := by
  have hbel : Below w.heap.size w (w.alloc (.cells #[] 5)) := (Below.refl _ _).alloc (Nat.le_refl _) _
  have HO := Lib.hid (own_empty w)
  go_enter Try.func16, Try.ntmps16
  go_wp2_with (at_builtin; refine app_bytes rfl (.tmp 3) (.tmp 4) rfl w.heap.size _ [] rfl HO.out A l c w.heap.size rfl (hb.below hbel) hc (by simp; omega) hbel.size ?_; intro v2 w2 hown2 hbel2)
  go_ret
  exact ⟨v2, rfl, hown2, hbel.trans hbel2⟩
end Go.Proofs.Ytdcolpmmojiffaa.Leb
namespace Go.Proofs.Ytdcolpmmojiffaa.Leb
open Go.RowKit

section
variable (A : Option Addr) (len cap n v s : Nat) (w : World)
end
section
variable (b off len cap n v s x : Nat) (w : World)
end
end Go.Proofs.Ytdcolpmmojiffaa.Leb
namespace Go.Proofs.Ytdcolpmmojiffaa.Leb
open Go.RowKit

end Go.Proofs.Ytdcolpmmojiffaa.Leb
namespace Go.Proofs.Ytdcolpmmojiffaa.Leb
open Go.RowKit

end Go.Proofs.Ytdcolpmmojiffaa.Leb
namespace Go.Proofs.Ytdcolpmmojiffaa.Leb
open Go.RowKit

theorem Bits.drewN {w : World} {g V n : Nat} (h : Bits w g V n) (k : Nat) : Bits (w.drewN k) g V n := h
end Go.Proofs.Ytdcolpmmojiffaa.Leb
namespace Go.Proofs.Ytdcolpmmojiffaa.Leb
open Go.RowKit

end Go.Proofs.Ytdcolpmmojiffaa.Leb
namespace Go.Proofs.Ytdcolpmmojiffaa.Leb
open Go.RowKit

end Go.Proofs.Ytdcolpmmojiffaa.Leb
namespace Go.Proofs.Ytdcolpmmojiffaa.Leb
open Go.RowKit

end Go.Proofs.Ytdcolpmmojiffaa.Leb
namespace Go.Proofs.Ytdcolpmmojiffaa.Leb
open Go.RowKit

end Go.Proofs.Ytdcolpmmojiffaa.Leb
