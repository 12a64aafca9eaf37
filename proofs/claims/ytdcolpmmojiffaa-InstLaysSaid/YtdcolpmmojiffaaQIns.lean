/-
  InsMath: Instructions in plain words: what follows a code, what bytes say, what is put; an instruction is read as it was put. Conditions as each lemma says; nothing of the program.
  InsBody: Bodies in plain words: what bytes say, what is closed; a body is read as it was put. Conditions as each lemma says; nothing of the program.
  InsCut: What is read of instructions hangs on the bytes that it takes; cut, it is too short: plain lists. Conditions as each lemma says; nothing of the program.
  InsTaken: What is read is formed, and put again it has no more bytes than it had: plain lists. Conditions as each lemma says; nothing of the program.
  InsMem: Instructions in memory: as values, as the cells of a slice. Conditions as each lemma says; nothing of the program but its types.
  InsOwn: Instructions that a call made itself: a slice value that owns them; append onto them. Conditions as each lemma says; nothing of the program but its types.
  InsLs: A list of instructions that a call makes, each with labels of its own: what stays apart; append of ints. Conditions as each lemma says; nothing of the program but its types.
-/
import Derived.Test.YtdcolpmmojiffaaQTyp
namespace Go.Proofs.Ytdcolpmmojiffaa.Ins
open Go.RowKit Leb Typ

structure Ins where
  op : Int
  a : Int
  b : Int
  k : Int
  l : List Int
  deriving DecidableEq
inductive Part
  | t | a | b | l | k | kk | z
  deriving DecidableEq
def fitsU (n : Int) : Prop := 0 ≤ n ∧ n ≤ 4294967295
instance (n : Int) : Decidable (fitsU n) := by unfold fitsU; infer_instance
def partFits (x : Ins) : Part → Prop
  | .t => rightBlock x.a = true
  | .a => fitsU x.a
  | .b => fitsU x.b
  | .l => x.l.length ≤ 64 ∧ ∀ n ∈ x.l, fitsU n
  | .k => -2147483648 ≤ x.k ∧ x.k ≤ 2147483647
  | .kk => -9223372036854775808 ≤ x.k ∧ x.k ≤ 9223372036854775807
  | .z => True
end Go.Proofs.Ytdcolpmmojiffaa.Ins
namespace Go.Proofs.Ytdcolpmmojiffaa.Ins
open Go.RowKit Leb Typ

end Go.Proofs.Ytdcolpmmojiffaa.Ins
namespace Go.Proofs.Ytdcolpmmojiffaa.Ins
open Go.RowKit Leb Typ

end Go.Proofs.Ytdcolpmmojiffaa.Ins
namespace Go.Proofs.Ytdcolpmmojiffaa.Ins
open Go.RowKit Leb Typ

end Go.Proofs.Ytdcolpmmojiffaa.Ins
namespace Go.Proofs.Ytdcolpmmojiffaa.Ins
open Go.RowKit Leb Typ

instance (x : Ins) (r : Part) : Decidable (partFits x r) := by cases r <;> (unfold partFits; infer_instance)
def InsV (w : World) (v : Value) (x : Ins) : Prop :=
  ∃ A c, v = .agg #[.int .i64 x.op, .int .i64 x.a, .int .i64 x.b, .int .i64 x.k, .slice A x.l.length c] ∧ Ints w w.heap.size A x.l ∧ x.l.length ≤ c ∧ (A = none → c = 0)
theorem InsV.below {w w' : World} {v : Value} {x : Ins} (h : InsV w v x) (hb : Below w.heap.size w w') : InsV w' v x := by
  obtain ⟨A, c, rfl, h1, h2, h3⟩ := h
  exact ⟨A, c, rfl, (h1.below hb).more hb.size, h2, h3⟩
def InsAt (w : World) (B b off : Nat) (x : Ins) : Prop :=
  ∃ A c, w.cell? ⟨b, off, none⟩ = some (.int .i64 x.op) ∧ w.cell? ⟨b, off + 1, none⟩ = some (.int .i64 x.a) ∧ w.cell? ⟨b, off + 2, none⟩ = some (.int .i64 x.b) ∧ w.cell? ⟨b, off + 3, none⟩ = some (.int .i64 x.k) ∧
    w.cell? ⟨b, off + 4, none⟩ = some (.slice A x.l.length c) ∧ Ints w B A x.l ∧ x.l.length ≤ c ∧ (A = none → c = 0)
theorem InsAt.below {w w' : World} {B b off : Nat} {x : Ins} (h : InsAt w B b off x) (hb : Below B w w') (hlt : b < B) : InsAt w' B b off x := by
  obtain ⟨A, c, h1, h2, h3, h4, h5, h6, h7, h8⟩ := h
  have C : ∀ p : Addr, p.block = b → w'.cell? p = w.cell? p := fun p hp => hb.cell (by omega)
  exact ⟨A, c, (C _ rfl).trans h1, (C _ rfl).trans h2, (C _ rfl).trans h3, (C _ rfl).trans h4, (C _ rfl).trans h5, h6.below hb, h7, h8⟩
theorem InsAt.more {w : World} {B B' b off : Nat} {x : Ins} (h : InsAt w B b off x) (hB : B ≤ B') : InsAt w B' b off x := by
  obtain ⟨A, c, h1, h2, h3, h4, h5, h6, h7, h8⟩ := h
  exact ⟨A, c, h1, h2, h3, h4, h5, h6.more hB, h7, h8⟩
def Inss (w : World) (B : Nat) (A : Option Addr) (xs : List Ins) : Prop :=
  0 < xs.length → ∃ b off, A = some ⟨b, off, none⟩ ∧ b < B ∧ ∀ (j : Nat) (h : j < xs.length), InsAt w B b (off + j * 5) xs[j]
theorem Inss.below {w w' : World} {B : Nat} {A : Option Addr} {xs : List Ins} (h : Inss w B A xs) (hb : Below B w w') : Inss w' B A xs := by
  intro hl
  obtain ⟨b, off, e, hB, hc⟩ := h hl
  exact ⟨b, off, e, hB, fun j hj => (hc j hj).below hb hB⟩
theorem Inss.more {w : World} {B B' : Nat} {A : Option Addr} {xs : List Ins} (h : Inss w B A xs) (hB : B ≤ B') : Inss w B' A xs := by
  intro hl
  obtain ⟨b, off, e, hb, hc⟩ := h hl
  exact ⟨b, off, e, by omega, fun j hj => (hc j hj).more hB⟩
theorem Inss.nil (w : World) (B : Nat) (A : Option Addr) : Inss w B A [] := fun h => absurd h (by simp)
structure Sli (w : World) (A : Option Addr) (c : Nat) (xs : List Ins) : Prop where
  ins : Inss w w.heap.size A xs
  nil : A = none → c = 0
  room : xs.length ≤ c
theorem Sli.below {w w' : World} {A : Option Addr} {c : Nat} {xs : List Ins} (h : Sli w A c xs) (hb : Below w.heap.size w w') : Sli w' A c xs := ⟨(h.ins.below hb).more hb.size, h.nil, h.room⟩
end Go.Proofs.Ytdcolpmmojiffaa.Ins
namespace Go.Proofs.Ytdcolpmmojiffaa.Ins
open Go.RowKit Leb Typ

abbrev Ent : Type := Ins × Option Addr × Nat
def el (e : Ent) : List Value := [.int .i64 e.1.op, .int .i64 e.1.a, .int .i64 e.1.b, .int .i64 e.1.k, .slice e.2.1 e.1.l.length e.2.2]
def lab (w : World) (B : Nat) (e : Ent) : Prop := Ints w B e.2.1 e.1.l ∧ e.1.l.length ≤ e.2.2 ∧ (e.2.1 = none → e.2.2 = 0)
theorem lab.below {w w' : World} {B : Nat} {e : Ent} (h : lab w B e) (hb : Below B w w') : lab w' B e := ⟨h.1.below hb, h.2.1, h.2.2⟩
theorem lab.more {w : World} {B B' : Nat} {e : Ent} (h : lab w B e) (hB : B ≤ B') : lab w B' e := ⟨h.1.more hB, h.2.1, h.2.2⟩
theorem el_len (e : Ent) : (el e).length = 5 := rfl
def els (es : List Ent) : List Value := es.flatMap el
theorem els_at (es : List Ent) (j i : Nat) (hj : j < es.length) (hi : i < 5) : (els es)[j * 5 + i]? = some ((el es[j])[i]'(by rw [el_len]; exact hi)) := by
  induction es generalizing j with
  | nil => simp at hj
  | cons e es ih =>
    have e1 : els (e :: es) = el e ++ els es := by simp [els]
    rw [e1]
    cases j with
    | zero =>
      rw [Nat.zero_mul, Nat.zero_add, List.getElem?_append_left (by rw [el_len]; exact hi), List.getElem?_eq_getElem]
      rfl
    | succ j =>
      rw [List.getElem?_append_right (by rw [el_len]; omega), el_len, show (j + 1) * 5 + i - 5 = j * 5 + i from by omega, ih j (by simpa using hj)]
      rfl
def RowE (w : World) (B : Nat) (A : Option Addr) (es : List Ent) : Prop :=
  0 < es.length → ∃ b off, A = some ⟨b, off, none⟩ ∧ b < B ∧ ∀ (j : Nat) (h : j < es.length) (i : Nat) (hi : i < 5), w.cell? ⟨b, off + j * 5 + i, none⟩ = some ((el es[j])[i]'(by rw [el_len]; exact hi))
theorem RowE.below {w w' : World} {B : Nat} {A : Option Addr} {es : List Ent} (h : RowE w B A es) (hb : Below B w w') : RowE w' B A es := by
  intro hl
  obtain ⟨b, off, e, hB, hc⟩ := h hl
  exact ⟨b, off, e, hB, fun j hj i hi => (hb.cell hB).trans (hc j hj i hi)⟩
theorem RowE.more {w : World} {B B' : Nat} {A : Option Addr} {es : List Ent} (h : RowE w B A es) (hB : B ≤ B') : RowE w B' A es := by
  intro hl
  obtain ⟨b, off, e, hb, hc⟩ := h hl
  exact ⟨b, off, e, by omega, hc⟩
theorem RowE.take {w : World} {B : Nat} {A : Option Addr} {es : List Ent} (h : RowE w B A es) (p : Nat) : RowE w B A (es.take p) := by
  intro hl
  obtain ⟨b, off, e, hB, hc⟩ := h (by simp at hl; omega)
  refine ⟨b, off, e, hB, fun j hj i hi => ?_⟩
  rw [hc j (by simp at hj; omega) i hi]
  simp
theorem RowE.drop {w : World} {B b off : Nat} {es : List Ent} (h : RowE w B (some ⟨b, off, none⟩) es) (p : Nat) : RowE w B (some ⟨b, off + p * 5, none⟩) (es.drop p) := by
  intro hl
  obtain ⟨b', off', e, hB, hc⟩ := h (by simp at hl; omega)
  injection e with e
  injection e with e1 e2 _
  subst e1 e2
  refine ⟨b, off + p * 5, rfl, hB, fun j hj i hi => ?_⟩
  have hj' : p + j < es.length := by simp at hj; omega
  have := hc (p + j) hj' i hi
  rw [show off + p * 5 + j * 5 + i = off + (p + j) * 5 + i from by omega, this]
  simp
def OwnX (w : World) (base : Nat) (v : Value) (es : List Ent) : Prop := w.ownsRow base 123 5 v es.length (els es)
theorem OwnX.lt {w : World} {base : Nat} {v : Value} {es : List Ent} (h : OwnX w base v es) : ∀ k, v.ownBlock = some k → k < w.heap.size := fun k hk => (World.ownsRow.lt h k hk).2
theorem OwnX.alloc {w : World} {base : Nat} {v : Value} {es : List Ent} (h : OwnX w base v es) (o : Obj) : OwnX (w.alloc o) base v es := World.ownsRow.alloc h o
theorem OwnX.nil (w : World) (base : Nat) : OwnX w base (.slice none 0 0) [] := World.ownsRow_nil _ _ _ _
theorem OwnX.keep {w w' : World} {base B : Nat} {v : Value} {es : List Ent} (h : OwnX w base v es) (hb : Below B w w') (hB : ∀ k, v.ownBlock = some k → k < B) : OwnX w' base v es := by
  refine ⟨h.1, ?_⟩
  rcases h.2 with ⟨rfl, h0⟩ | ⟨g, cap, cur, rfl, h1, h2, h3, h4, h5⟩
  · exact .inl ⟨rfl, h0⟩
  · exact .inr ⟨g, cap, cur, rfl, h1, (hb.block g (hB g rfl)).trans h2, h3, h4, h5⟩
theorem OwnX.row {w : World} {base : Nat} {v : Value} {es : List Ent} (h : OwnX w base v es) :
    ∃ A cap, v = .slice A es.length cap ∧ RowE w w.heap.size A es ∧ es.length ≤ cap ∧ (A = none → cap = 0) := by
  have hlt := h.lt
  rcases h.2 with ⟨rfl, h0⟩ | ⟨g, cap, cur, rfl, h1, h2, h3, h4, h5⟩
  · refine ⟨none, 0, by rw [h0], fun h => by omega, by omega, fun _ => rfl⟩
  · refine ⟨some ⟨g, 0, none⟩, cap, rfl, fun _ => ⟨g, 0, rfl, hlt g rfl, fun j hj i hi => ?_⟩, h3, fun h => by cases h⟩
    have hc := World.ownsRow.cellAt h (j * 5 + i) (by omega)
    rw [show 0 + j * 5 + i = j * 5 + i from by omega, hc, els_at es j i hj hi]
section
variable {w : World} {ops : Array Oper} {rest : List Oper} {o : Oper} {a : Act} {Q : Exit → Act → World → Prop}
end
end Go.Proofs.Ytdcolpmmojiffaa.Ins
namespace Go.Proofs.Ytdcolpmmojiffaa.Ins
open Go.RowKit Leb Typ

def Apart (v v' : Value) : Prop := ∀ b, v.ownBlock = some b → v'.ownBlock ≠ some b
def slV (e : Ent) : Value := .slice e.2.1 e.1.l.length e.2.2
theorem rowSame {w w' : World} {base e size n : Nat} {v : Value} {xs : List Value} (h : w.ownsRow base e size v n xs) (hb : ∀ b, v.ownBlock = some b → w'.heap[b]? = w.heap[b]?) : w'.ownsRow base e size v n xs := by
  refine ⟨h.1, ?_⟩
  rcases h.2 with ⟨rfl, h0⟩ | ⟨g, cap, cur, rfl, h1, h2, h3, h4, h5⟩
  · exact .inl ⟨rfl, h0⟩
  · exact .inr ⟨g, cap, cur, rfl, h1, (hb g rfl).trans h2, h3, h4, h5⟩
theorem apart_new {W : World} {base e size n : Nat} {v v' : Value} {xs : List Value} (h : W.ownsRow base e size v n xs) (hn : ∀ b, v'.ownBlock = some b → W.heap.size ≤ b) : Apart v v' ∧ Apart v' v := by
  refine ⟨fun b hb e => ?_, fun b hb e => ?_⟩
  · have := (World.ownsRow.lt h b hb).2; have := hn b e; omega
  · have := (World.ownsRow.lt h b e).2; have := hn b hb; omega
theorem apart_next {W : World} {base e size n : Nat} {u v v' : Value} {xs : List Value} (h : Apart u v) (hu : W.ownsRow base e size u n xs) (hv : v'.ownBlock = v.ownBlock ∨ v'.ownBlock = some W.heap.size) : Apart u v' := by
  rcases hv with e | e
  · intro b hb; rw [e]; exact h b hb
  · refine (apart_new hu fun b hb => ?_).1
    rw [e] at hb
    injection hb with hb
    omega
structure LS (w W : World) (lv : Value) (es : List Ent) : Prop where
  below : Below w.heap.size w W
  own : OwnX W w.heap.size lv es
  labs : ∀ e ∈ es, OwnI W w.heap.size (slV e) e.1.l
  offs : ∀ e ∈ es, Apart (slV e) lv
theorem LS.keep {w W W' : World} {lv : Value} {es : List Ent} (h : LS w W lv es) (hb : Below W.heap.size W W') : LS w W' lv es :=
  ⟨h.below.trans (hb.mono h.below.size), rowSame h.own fun b e => hb.block b (World.ownsRow.lt h.own b e).2, fun e he => rowSame (h.labs e he) fun b e' => hb.block b (World.ownsRow.lt (h.labs e he) b e').2, h.offs⟩
theorem LS.more {w W W' : World} {lv : Value} {es : List Ent} (h : LS w W lv es) {e : Ent} {A' : Option Addr} {m c' : Nat} (hbe : OwnI W w.heap.size (slV e) e.1.l) (hev : Apart (slV e) lv) (ho : OwnX W' w.heap.size (.slice A' m c') (es ++ [e])) (hg : W.grownBy W' lv.ownBlock) (hb' : (Value.slice A' m c').ownBlock = lv.ownBlock ∨ (Value.slice A' m c').ownBlock = some W.heap.size) : LS w W' (.slice A' m c') (es ++ [e]) := by
  have hall : ∀ e' ∈ es ++ [e], OwnI W w.heap.size (slV e') e'.1.l ∧ Apart (slV e') lv := by
    intro e' he
    rcases List.mem_append.1 he with he | he
    · exact ⟨h.labs e' he, h.offs e' he⟩
    · rw [List.mem_singleton.1 he]; exact ⟨hbe, hev⟩
  exact ⟨h.below.grown hg h.below.size (fun i hi => (World.ownsRow.lt h.own i hi).1), ho, fun e' he => rowSame (hall e' he).1 fun b e2 => hg.block b (World.ownsRow.lt (hall e' he).1 b e2).2 (fun e3 => (hall e' he).2 b e2 e3.symm), fun e' he => apart_next (hall e' he).2 (hall e' he).1 hb'⟩
end Go.Proofs.Ytdcolpmmojiffaa.Ins
