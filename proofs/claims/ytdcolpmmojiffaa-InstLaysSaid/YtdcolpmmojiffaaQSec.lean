/-
  SecMath: Sections in plain words: what bytes say, what is joined; what was joined is split as it was; what is cut, what has a custom section more. Conditions as each lemma says; nothing of the program.
  SecMem: Sections in memory; trammelref07.place, may. Conditions as each lemma says.
  SecOwn: Sections that a call made itself: a slice value that owns their cells; a list under way, whose sections' bytes lie elsewhere; append of one. Conditions as each lemma says; nothing of the program but its types.
  SecSlc: A slice cut at a place, as one fact: of bytes, of sections. Conditions: as each lemma says; nothing of the program but its types.
  SecCut: Sections in plain words: what is cut; what has a custom section more. Conditions as each lemma says; nothing of the program.
-/
import Derived.Test.YtdcolpmmojiffaaQLeb
import Derived.BigQuiet
namespace Go.Proofs.Ytdcolpmmojiffaa.Sec
open Go.RowKit Leb

theorem gath_is {l : List Nat} {m v s : Nat} (h : gath l m = (v, s, 0)) : lead l < m ∧ lead l < l.length ∧ s = lead l + 1 ∧ v = gv l (lead l + 1) := by
  unfold gath at h
  have hl := lead_le l
  by_cases h1 : m ≤ lead l
  · rw [if_pos h1] at h; simp at h
  · rw [if_neg h1] at h
    by_cases h2 : lead l = l.length
    · rw [if_pos h2] at h; simp at h
    · rw [if_neg h2] at h
      simp only [Prod.mk.injEq] at h
      exact ⟨by omega, by omega, h.2.1.symm, h.1.symm⟩
theorem uRes_is {l : List Nat} {n u s : Nat} (h : uRes l n = (u, s, 0)) : gath l (most n) = (u, s, 0) ∧ ¬ (s = most n ∧ l.getD (most n - 1) 0 / 2 ^ inl n ≠ 0) := by
  unfold uRes at h
  by_cases h1 : (gath l (most n)).2.2 = 0
  · rw [if_pos h1] at h
    by_cases h2 : (gath l (most n)).2.1 = most n ∧ l.getD (most n - 1) 0 / 2 ^ inl n ≠ 0
    · rw [if_pos h2] at h; simp at h
    · rw [if_neg h2] at h
      rw [h] at h2
      exact ⟨h, h2⟩
  · rw [if_neg h1] at h
    simp only [Prod.mk.injEq] at h
    exact absurd h.2.2 h1
structure Sec where
  id : Int
  b : List Nat
  deriving DecidableEq
end Go.Proofs.Ytdcolpmmojiffaa.Sec
namespace Go.Proofs.Ytdcolpmmojiffaa.Sec
open Go.RowKit Leb

def SecAt (w : World) (B b off : Nat) (s : Sec) : Prop :=
  ∃ A c, w.cell? ⟨b, off, none⟩ = some (.int .i64 s.id) ∧ w.cell? ⟨b, off + 1, none⟩ = some (.slice A s.b.length c) ∧ Bytes w B A s.b ∧ s.b.length ≤ c ∧ (A = none → c = 0)
theorem SecAt.below {w w' : World} {B b off : Nat} {s : Sec} (h : SecAt w B b off s) (hb : Below B w w') (hlt : b < B) : SecAt w' B b off s := by
  obtain ⟨A, c, h1, h2, h3, h4, h5⟩ := h
  have C : ∀ p : Addr, p.block = b → w'.cell? p = w.cell? p := fun p hp => hb.cell (by omega)
  exact ⟨A, c, (C _ rfl).trans h1, (C _ rfl).trans h2, h3.below hb, h4, h5⟩
theorem SecAt.more {w : World} {B B' b off : Nat} {s : Sec} (h : SecAt w B b off s) (hB : B ≤ B') : SecAt w B' b off s := by
  obtain ⟨A, c, h1, h2, h3, h4, h5⟩ := h
  exact ⟨A, c, h1, h2, h3.more hB, h4, h5⟩
def Secs (w : World) (B : Nat) (A : Option Addr) (l : List Sec) : Prop :=
  0 < l.length → ∃ b off, A = some ⟨b, off, none⟩ ∧ b < B ∧ ∀ (j : Nat) (h : j < l.length), SecAt w B b (off + j * 2) l[j]
theorem Secs.below {w w' : World} {B : Nat} {A : Option Addr} {l : List Sec} (h : Secs w B A l) (hb : Below B w w') : Secs w' B A l := by
  intro hl
  obtain ⟨b, off, e, hB, hc⟩ := h hl
  exact ⟨b, off, e, hB, fun j hj => (hc j hj).below hb hB⟩
theorem Secs.more {w : World} {B B' : Nat} {A : Option Addr} {l : List Sec} (h : Secs w B A l) (hB : B ≤ B') : Secs w B' A l := by
  intro hl
  obtain ⟨b, off, e, hb, hc⟩ := h hl
  exact ⟨b, off, e, by omega, fun j hj => (hc j hj).more hB⟩
theorem Secs.nil (w : World) (B : Nat) (A : Option Addr) : Secs w B A [] := fun h => absurd h (by simp)
theorem Secs.take {w : World} {B : Nat} {A : Option Addr} {l : List Sec} (h : Secs w B A l) (k : Nat) : Secs w B A (l.take k) := by
  intro hl
  obtain ⟨b, off, e, hB, hc⟩ := h (by simp at hl; omega)
  refine ⟨b, off, e, hB, fun j hj => ?_⟩
  have := hc j (by simp at hj; omega)
  rw [List.getElem_take]
  exact this
end Go.Proofs.Ytdcolpmmojiffaa.Sec
namespace Go.Proofs.Ytdcolpmmojiffaa.Sec
open Go.RowKit Leb

abbrev Ent : Type := Sec × Option Addr × Nat
def el (e : Ent) : List Value := [.int .i64 e.1.id, .slice e.2.1 e.1.b.length e.2.2]
def lab (w : World) (B : Nat) (e : Ent) : Prop := Bytes w B e.2.1 e.1.b ∧ e.1.b.length ≤ e.2.2 ∧ (e.2.1 = none → e.2.2 = 0)
theorem lab.below {w w' : World} {B : Nat} {e : Ent} (h : lab w B e) (hb : Below B w w') : lab w' B e := ⟨h.1.below hb, h.2.1, h.2.2⟩
theorem lab.more {w : World} {B B' : Nat} {e : Ent} (h : lab w B e) (hB : B ≤ B') : lab w B' e := ⟨h.1.more hB, h.2.1, h.2.2⟩
theorem el_len (e : Ent) : (el e).length = 2 := rfl
def els (es : List Ent) : List Value := es.flatMap el
theorem els_at (es : List Ent) (j i : Nat) (hj : j < es.length) (hi : i < 2) : (els es)[j * 2 + i]? = some ((el es[j])[i]'(by rw [el_len]; exact hi)) := by
  induction es generalizing j with
  | nil => simp at hj
  | cons e es ih =>
    have e1 : els (e :: es) = el e ++ els es := by simp [els]
    rw [e1]
    cases j with
    | zero =>
      rw [Nat.zero_mul, Nat.zero_add, List.getElem?_append_left (by rw [el_len]; exact hi), List.getElem?_eq_getElem]
      rfl
    | succ j =>
      rw [List.getElem?_append_right (by rw [el_len]; omega), el_len, show (j + 1) * 2 + i - 2 = j * 2 + i from by omega, ih j (by simpa using hj)]
      rfl
def RowE (w : World) (B : Nat) (A : Option Addr) (es : List Ent) : Prop :=
  0 < es.length → ∃ b off, A = some ⟨b, off, none⟩ ∧ b < B ∧ ∀ (j : Nat) (h : j < es.length) (i : Nat) (hi : i < 2), w.cell? ⟨b, off + j * 2 + i, none⟩ = some ((el es[j])[i]'(by rw [el_len]; exact hi))
theorem RowE.below {w w' : World} {B : Nat} {A : Option Addr} {es : List Ent} (h : RowE w B A es) (hb : Below B w w') : RowE w' B A es := by
  intro hl
  obtain ⟨b, off, e, hB, hc⟩ := h hl
  exact ⟨b, off, e, hB, fun j hj i hi => (hb.cell hB).trans (hc j hj i hi)⟩
theorem RowE.more {w : World} {B B' : Nat} {A : Option Addr} {es : List Ent} (h : RowE w B A es) (hB : B ≤ B') : RowE w B' A es := by
  intro hl
  obtain ⟨b, off, e, hb, hc⟩ := h hl
  exact ⟨b, off, e, by omega, hc⟩
structure Sli (w : World) (B : Nat) (A : Option Addr) (c : Nat) (l : List Sec) : Prop where
  secs : Secs w B A l
  room : l.length ≤ c
  nil : A = none → c = 0
theorem Sli.below {w w' : World} {B : Nat} {A : Option Addr} {c : Nat} {l : List Sec} (h : Sli w B A c l) (hb : Below B w w') : Sli w' B A c l := ⟨h.secs.below hb, h.room, h.nil⟩
theorem Sli.more {w : World} {B B' : Nat} {A : Option Addr} {c : Nat} {l : List Sec} (h : Sli w B A c l) (hB : B ≤ B') : Sli w B' A c l := ⟨h.secs.more hB, h.room, h.nil⟩
def OwnX (w : World) (et : TypeId) (base : Nat) (v : Value) (es : List Ent) : Prop := w.ownsRow base et 2 v es.length (els es)
theorem OwnX.lt {w : World} {et : TypeId} {base : Nat} {v : Value} {es : List Ent} (h : OwnX w et base v es) : ∀ k, v.ownBlock = some k → k < w.heap.size := fun k hk => (World.ownsRow.lt h k hk).2
theorem OwnX.nil (w : World) (et : TypeId) (base : Nat) : OwnX w et base (.slice none 0 0) [] := World.ownsRow_nil _ _ _ _
theorem OwnX.row {w : World} {et : TypeId} {base : Nat} {v : Value} {es : List Ent} (h : OwnX w et base v es) :
    ∃ A cap, v = .slice A es.length cap ∧ RowE w w.heap.size A es ∧ es.length ≤ cap ∧ (A = none → cap = 0) := by
  have hlt := h.lt
  rcases h.2 with ⟨rfl, h0⟩ | ⟨g, cap, cur, rfl, h1, h2, h3, h4, h5⟩
  · refine ⟨none, 0, by rw [h0], fun h => by omega, by omega, fun _ => rfl⟩
  · refine ⟨some ⟨g, 0, none⟩, cap, rfl, fun _ => ⟨g, 0, rfl, hlt g rfl, fun j hj i hi => ?_⟩, h3, fun h => by cases h⟩
    have hc := World.ownsRow.cellAt h (j * 2 + i) (by omega)
    rw [show 0 + j * 2 + i = j * 2 + i from by omega, hc, els_at es j i hj hi]
theorem rowSame {w w' : World} {base e size n : Nat} {v : Value} {xs : List Value} (h : w.ownsRow base e size v n xs) (hb : ∀ b, v.ownBlock = some b → w'.heap[b]? = w.heap[b]?) : w'.ownsRow base e size v n xs := by
  refine ⟨h.1, ?_⟩
  rcases h.2 with ⟨rfl, h0⟩ | ⟨g, cap, cur, rfl, h1, h2, h3, h4, h5⟩
  · exact .inl ⟨rfl, h0⟩
  · exact .inr ⟨g, cap, cur, rfl, h1, (hb g rfl).trans h2, h3, h4, h5⟩
theorem by_below {w w' : World} (h : Below w.heap.size w w') (o : Option Nat) : w.grownBy w' o := ⟨h.os, h.tape, h.output, h.size, fun k hk _ => h.block k hk⟩
def OffB (o : Option Nat) (e : Ent) : Prop := 0 < e.1.b.length → ∀ a, e.2.1 = some a → o ≠ some a.block
theorem lab.lt {w : World} {B : Nat} {e : Ent} (h : lab w B e) (hl : 0 < e.1.b.length) : ∀ a, e.2.1 = some a → a.block < B := by
  intro a ha
  obtain ⟨b, off, e1, hb, _⟩ := h.1.2 hl
  rw [ha] at e1
  injection e1 with e1
  subst e1
  exact hb
theorem lab.same {w w' : World} {B : Nat} {e : Ent} (h : lab w B e) (hh : 0 < e.1.b.length → ∀ a, e.2.1 = some a → w'.heap[a.block]? = w.heap[a.block]?) : lab w' B e := by
  refine ⟨⟨h.1.1, fun hl => ?_⟩, h.2.1, h.2.2⟩
  obtain ⟨b, off, e1, hb, hc⟩ := h.1.2 hl
  have h2 := hh hl _ e1
  refine ⟨b, off, e1, hb, fun j hj => ?_⟩
  have h3 : w'.cell? ⟨b, off + j, none⟩ = w.cell? ⟨b, off + j, none⟩ := World.cell?_of_block h2
  exact h3.trans (hc j hj)
structure LS (w W : World) (et : TypeId) (r : Option Nat) (lv : Value) (es : List Ent) : Prop where
  below : Below w.heap.size w W
  own : OwnX W et w.heap.size lv es
  labs : ∀ e ∈ es, lab W W.heap.size e
  offs : ∀ e ∈ es, OffB lv.ownBlock e
  offR : ∀ k, r = some k → k < W.heap.size ∧ w.heap.size ≤ k ∧ lv.ownBlock ≠ some k ∧ ∀ e ∈ es, OffB (some k) e
theorem LS.keepG {w W W' : World} {et : TypeId} {r : Option Nat} {lv : Value} {es : List Ent} (h : LS w W et r lv es) (hg : W.grownBy W' r) : LS w W' et r lv es :=
  ⟨h.below.grown hg h.below.size fun i hi => (h.offR i hi).2.1,
   rowSame h.own fun b e => hg.block b (h.own.lt b e) fun e2 => (h.offR b e2.symm).2.2.1 e,
   fun e he => ((h.labs e he).same fun hl a ha => hg.block _ ((h.labs e he).lt hl a ha) fun e2 => (h.offR _ e2.symm).2.2.2 e he hl a ha rfl).more hg.size,
   h.offs, fun k hk => ⟨Nat.lt_of_lt_of_le (h.offR k hk).1 hg.size, (h.offR k hk).2⟩⟩
theorem LS.keep {w W W' : World} {et : TypeId} {r : Option Nat} {lv : Value} {es : List Ent} (h : LS w W et r lv es) (hb : Below W.heap.size W W') : LS w W' et r lv es := h.keepG (by_below hb r)
theorem LS.more {w W W' : World} {et : TypeId} {r : Option Nat} {lv : Value} {es : List Ent} (h : LS w W et r lv es) {e : Ent} {A' : Option Addr} {m c' : Nat} (hl : lab W W.heap.size e) (hoff : OffB lv.ownBlock e) (hoffr : ∀ k, r = some k → OffB (some k) e)
    (ho : OwnX W' et w.heap.size (.slice A' m c') (es ++ [e])) (hg : W.grownBy W' lv.ownBlock) (hb' : (Value.slice A' m c').ownBlock = lv.ownBlock ∨ (Value.slice A' m c').ownBlock = some W.heap.size) : LS w W' et r (.slice A' m c') (es ++ [e]) := by
  have hall : ∀ e' ∈ es ++ [e], lab W W.heap.size e' ∧ OffB lv.ownBlock e' := by
    intro e' he
    rcases List.mem_append.1 he with he | he
    · exact ⟨h.labs e' he, h.offs e' he⟩
    · rw [List.mem_singleton.1 he]; exact ⟨hl, hoff⟩
  refine ⟨h.below.grown hg h.below.size (fun i hi => (World.ownsRow.lt h.own i hi).1), ho, fun e' he => ?_, fun e' he hl' a ha => ?_, fun k hk => ?_⟩
  · exact ((hall e' he).1.same fun hl' a ha => hg.block _ ((hall e' he).1.lt hl' a ha) fun e3 => (hall e' he).2 hl' a ha e3.symm).more hg.size
  · rcases hb' with e2 | e2
    · rw [e2]; exact (hall e' he).2 hl' a ha
    · rw [e2]; intro e3
      injection e3 with e3
      have := (hall e' he).1.lt hl' a ha
      omega
  · obtain ⟨h1, h2, h3, h4⟩ := h.offR k hk
    refine ⟨Nat.lt_of_lt_of_le h1 hg.size, h2, ?_, fun e' he => ?_⟩
    · rcases hb' with e2 | e2
      · rw [e2]; exact h3
      · rw [e2]; intro e3
        injection e3 with e3
        omega
    · rcases List.mem_append.1 he with he | he
      · exact h4 e' he
      · rw [List.mem_singleton.1 he]; exact hoffr k hk
structure Ty (t et : TypeId) : Prop where
  und : Try.prog.underlying t = some (.slice et)
  info : (Try.prog.info? et).map (fun i => (i.zero, i.size, i.bytes)) = some (some (.agg #[.int .i64 0, .slice none 0 0]), 2, 32)
section
variable {w : World} {ops : Array Oper} {rest : List Oper} {o : Oper} {a : Act} {Q : Exit → Act → World → Prop} {t et : TypeId} (T : Ty t et)
include T
end
end Go.Proofs.Ytdcolpmmojiffaa.Sec
namespace Go.Proofs.Ytdcolpmmojiffaa.Sec
open Go.RowKit Leb

structure Slc (w : World) (B : Nat) (A : Option Addr) (c : Nat) (l : List Nat) : Prop where
  bytes : Bytes w B A l
  nil : A = none → c = 0
  room : l.length ≤ c
theorem Slc.below {w w' : World} {B : Nat} {A : Option Addr} {c : Nat} {l : List Nat} (h : Slc w B A c l) (hb : Below B w w') : Slc w' B A c l := ⟨h.bytes.below hb, h.nil, h.room⟩
theorem Slc.more {w : World} {B B' : Nat} {A : Option Addr} {c : Nat} {l : List Nat} (h : Slc w B A c l) (hB : B ≤ B') : Slc w B' A c l := ⟨h.bytes.more hB, h.nil, h.room⟩
theorem bytes_from {w : World} {B b off : Nat} {l : List Nat} (h : Bytes w B (some ⟨b, off, none⟩) l) (k : Nat) : Bytes w B (some ⟨b, off + k, none⟩) (l.drop k) := by
  refine ⟨fun x hx => h.1 x (List.mem_of_mem_drop hx), fun hl => ?_⟩
  have hl' : k < l.length := by simp at hl; omega
  obtain ⟨b', off', e, hb, hc⟩ := h.2 (by omega)
  injection e with e
  injection e with e1 e2 _
  subst e1 e2
  refine ⟨b, off + k, rfl, hb, fun j hj => ?_⟩
  have := hc (k + j) (by simp at hj; omega)
  rw [List.getElem_drop, show off + k + j = off + (k + j) from by omega]
  exact this
set_option maxRecDepth 100000 in
theorem slice_to (A : Option Addr) (l : List Nat) (c p q B : Nat) (w : World) (hs : Slc w B A c l) (hp : p ≤ q) (hq : q ≤ l.length) :
    ∃ A' c', (∀ W, (Instr.slice 22 (.slice A l.length c) (some (.int .i64 (p : Int))) (some (.int .i64 (q : Int))) none).run Try.prog W = .ok (.slice A' (q - p) c') W) ∧ (∀ W, Slc W B A c l → Slc W B A' c' ((l.drop p).take (q - p))) := by
  have hn := hs.nil
  have hr := hs.room
  have hsz : ∀ W, (sizeOf (Try.prog.elem 22)).run Try.prog W = .ok 1 W := fun W => by kernel_rfl
  have key : ∀ W, (Instr.slice 22 (.slice A l.length c) (some (.int .i64 (p : Int))) (some (.int .i64 (q : Int))) none).run Try.prog W = .ok (sliced A p q c 1) W := fun W => by
    rw [run_slice_lh W 22 A l.length c (show Try.prog.underlying 22 = some (.slice (Try.prog.elem 22)) from by kernel_rfl) .i64 .i64 (p : Int) (q : Int) (by omega) (by omega) (by omega), hsz W]
    simp [Result.andThen]
  have hlen : ((l.drop p).take (q - p)).length = q - p := by simp; omega
  have hmem : ∀ W, Slc W B A c l → ∀ x ∈ (l.drop p).take (q - p), x < 256 := fun W h x hx => h.bytes.1 x (List.mem_of_mem_drop (List.mem_of_mem_take hx))
  by_cases hc : c = p
  · refine ⟨A, c - p, fun W => ?_, fun W hW => ⟨⟨hmem W hW, fun h => ?_⟩, fun h => by rw [hn h]; omega, by omega⟩⟩
    · rw [key W]; simp [sliced, hc]
    · omega
  · refine ⟨A.map (·.add p), c - p, fun W => ?_, fun W hW => ⟨?_, fun h => ?_, by omega⟩⟩
    · rw [key W]; simp [sliced, hc]
    · by_cases hl : l.length = 0
      · obtain rfl : l = [] := List.eq_nil_of_length_eq_zero hl
        simp only [List.drop_nil, List.take_nil]
        exact ⟨by simp, by simp⟩
      · obtain ⟨b, off, rfl, h2, h3⟩ := hW.bytes.2 (by omega)
        have := (bytes_from hW.bytes p).take (q - p)
        by_cases h0 : p = 0
        · subst h0; simpa [Addr.add] using this
        · simpa [Addr.add, h0] using this
    · cases A with
      | none => rw [hn rfl]; omega
      | some ad => simp at h
set_option maxRecDepth 100000 in
theorem slice_at (A : Option Addr) (l : List Nat) (c p B : Nat) (w : World) (hs : Slc w B A c l) (hp : p ≤ l.length) :
    ∃ A' c', (∀ W, (Instr.slice 22 (.slice A l.length c) (some (.int .i64 (p : Int))) none none).run Try.prog W = .ok (.slice A' (l.length - p) c') W) ∧ (∀ W, Slc W B A c l → Slc W B A' c' (l.drop p)) := by
  obtain ⟨A', c', h1, h2⟩ := slice_to A l c p l.length B w hs hp (Nat.le_refl _)
  refine ⟨A', c', fun W => ?_, fun W hW => ?_⟩
  · rw [← h1 W, run_slice_l W 22 A l.length c (show Try.prog.underlying 22 = some (.slice (Try.prog.elem 22)) from by kernel_rfl) .i64 (p : Int) (by omega) (by omega), run_slice_lh W 22 A l.length c (show Try.prog.underlying 22 = some (.slice (Try.prog.elem 22)) from by kernel_rfl) .i64 .i64 (p : Int) (l.length : Int) (by omega) (by omega) (by have := hs.room; omega)]
    simp
  · have := h2 W hW
    rwa [List.take_of_length_le (by simp)] at this
set_option maxRecDepth 100000 in
theorem slice_hi (A : Option Addr) (l : List Nat) (c q B : Nat) (w : World) (hs : Slc w B A c l) (hq : q ≤ l.length) :
    (∀ W, (Instr.slice 22 (.slice A l.length c) none (some (.int .i64 (q : Int))) none).run Try.prog W = .ok (.slice A q c) W) ∧ (∀ W, Slc W B A c l → Slc W B A c (l.take q)) := by
  have hr := hs.room
  have hsz : ∀ W, (sizeOf (Try.prog.elem 22)).run Try.prog W = .ok 1 W := fun W => by kernel_rfl
  refine ⟨fun W => ?_, fun W hW => ⟨hW.bytes.take q, hW.nil, by simp; omega⟩⟩
  rw [run_slice_h W 22 A l.length c (show Try.prog.underlying 22 = some (.slice (Try.prog.elem 22)) from by kernel_rfl) .i64 (q : Int) (by omega) (by omega), hsz W]
  cases A <;> simp [Result.andThen, sliced, Addr.add]
end Go.Proofs.Ytdcolpmmojiffaa.Sec
namespace Go.Proofs.Ytdcolpmmojiffaa.Sec
open Go.RowKit Leb

theorem uRes_in {l : List Nat} {n u s : Nat} (h : uRes l n = (u, s, 0)) : 1 ≤ s ∧ s ≤ l.length := by
  obtain ⟨h1, _⟩ := uRes_is h
  obtain ⟨_, h3, rfl, _⟩ := gath_is h1
  omega
end Go.Proofs.Ytdcolpmmojiffaa.Sec
