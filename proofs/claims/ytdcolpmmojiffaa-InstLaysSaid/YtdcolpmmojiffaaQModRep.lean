/-
  ModRep: How things lie in memory, of whatever kind: a kind's cells, slices of them, what keeps them; numbers, texts, bytes, instructions, types as such kinds. No condition; nothing of the program.
-/
import Derived.Test.YtdcolpmmojiffaaQIns
import Derived.Test.YtdcolpmmojiffaaQSec
namespace Go.Proofs.Ytdcolpmmojiffaa.Mod
open Go.RowKit Leb

theorem cell_lt {w : World} {a : Addr} {v : Value} (h : w.cell? a = some v) : a.block < w.heap.size := by
  unfold World.cell? at h
  by_cases hb : a.block < w.heap.size
  · exact hb
  · rw [Array.getElem?_eq_none (by omega)] at h
    exact absurd h (by simp)
structure Rep (α : Type) where
  k : Nat
  pos : 0 < k
  at_ : World → (Nat → Prop) → List Value → α → Prop
  len : ∀ {w ok vs a}, at_ w ok vs a → vs.length = k
  keep : ∀ {w w' ok ok' vs a}, at_ w ok vs a → (∀ b, ok b → b < w.heap.size → w'.heap[b]? = w.heap[b]? ∧ ok' b) → at_ w' ok' vs a
def Row {α : Type} (R : Rep α) (w : World) (ok : Nat → Prop) (A : Option Addr) (xs : List α) : Prop :=
  0 < xs.length → ∃ b off, A = some ⟨b, off, none⟩ ∧ ok b ∧ ∀ (j : Nat) (h : j < xs.length), ∃ us, R.at_ w ok us xs[j] ∧ ∀ (i : Nat) (hi : i < us.length), w.cell? ⟨b, off + (j * R.k + i), none⟩ = some us[i]
theorem Row.keep {α : Type} {R : Rep α} {w w' : World} {ok ok' : Nat → Prop} {A : Option Addr} {xs : List α} (h : Row R w ok A xs) (hh : ∀ b, ok b → b < w.heap.size → w'.heap[b]? = w.heap[b]? ∧ ok' b) : Row R w' ok' A xs := by
  intro hl
  obtain ⟨b, off, rfl, hb, hc⟩ := h hl
  have hlt : b < w.heap.size := by
    obtain ⟨us, h1, h2⟩ := hc 0 hl
    have := h2 0 (by rw [R.len h1]; exact R.pos)
    exact cell_lt this
  refine ⟨b, off, rfl, (hh b hb hlt).2, fun j hj => ?_⟩
  obtain ⟨us, h1, h2⟩ := hc j hj
  refine ⟨us, R.keep h1 hh, fun i hi => ?_⟩
  rw [World.cell?_of_block (hh b hb hlt).1]
  exact h2 i hi
theorem Row.nil {α : Type} (R : Rep α) (w : World) (ok : Nat → Prop) (A : Option Addr) : Row R w ok A [] := fun h => absurd h (by simp)
structure Lst {α : Type} (R : Rep α) (w : World) (ok : Nat → Prop) (A : Option Addr) (c : Nat) (xs : List α) : Prop where
  row : Row R w ok A xs
  nil : A = none → c = 0
  room : xs.length ≤ c
theorem Lst.keep {α : Type} {R : Rep α} {w w' : World} {ok ok' : Nat → Prop} {A : Option Addr} {c : Nat} {xs : List α} (h : Lst R w ok A c xs) (hh : ∀ b, ok b → b < w.heap.size → w'.heap[b]? = w.heap[b]? ∧ ok' b) : Lst R w' ok' A c xs := ⟨h.row.keep hh, h.nil, h.room⟩
theorem lst_none {α : Type} (R : Rep α) (w : World) (ok : Nat → Prop) : Lst R w ok none 0 [] := ⟨Row.nil _ _ _ _, fun _ => rfl, Nat.le_refl _⟩
def oneR {α : Type} (f : α → Value) : Rep α where
  k := 1
  pos := by omega
  at_ _ _ vs a := vs = [f a]
  len h := by rw [h]; rfl
  keep h _ := h
def intR : Rep Int := oneR fun n => .int .i64 n
def boolR : Rep Bool := oneR fun b => .bool b
def strR : Rep ByteArray := oneR fun s => .string s
def byteR : Rep Nat where
  k := 1
  pos := by omega
  at_ _ _ vs n := vs = [.int .u8 (n : Int)] ∧ n < 256
  len h := by rw [h.1]; rfl
  keep h _ := h
def lstR {α : Type} (R : Rep α) : Rep (List α) where
  k := 1
  pos := by omega
  at_ w ok vs xs := ∃ A c, vs = [.slice A xs.length c] ∧ Lst R w ok A c xs
  len h := by obtain ⟨A, c, rfl, _⟩ := h; rfl
  keep h hh := by obtain ⟨A, c, e, h⟩ := h; exact ⟨A, c, e, h.keep hh⟩
def seqR {α β : Type} (R : Rep α) (S : Rep β) : Rep (α × β) where
  k := R.k + S.k
  pos := by have := R.pos; omega
  at_ w ok vs x := ∃ us us', vs = us ++ us' ∧ R.at_ w ok us x.1 ∧ S.at_ w ok us' x.2
  len h := by obtain ⟨us, us', rfl, h1, h2⟩ := h; rw [List.length_append, R.len h1, S.len h2]
  keep h hh := by obtain ⟨us, us', e, h1, h2⟩ := h; exact ⟨us, us', e, R.keep h1 hh, S.keep h2 hh⟩
def mapR {α β : Type} (f : β → α) (R : Rep α) : Rep β where
  k := R.k
  pos := R.pos
  at_ w ok vs x := R.at_ w ok vs (f x)
  len h := R.len h
  keep h hh := R.keep h hh
theorem Lst.bytes {w : World} {ok : Nat → Prop} {A : Option Addr} {l : List Nat} {c : Nat} (h : Lst byteR w ok A c l) : Bytes w w.heap.size A l := by
  have key0 : ∀ (j : Nat) (hj : j < l.length), l[j] < 256 ∧ ∃ b off, A = some ⟨b, off, none⟩ ∧ w.cell? ⟨b, off + j, none⟩ = some (.int .u8 (l[j] : Nat)) := fun j hj => by
    obtain ⟨b, off, rfl, hb, h1⟩ := h.row (by omega)
    obtain ⟨us, h2, h3⟩ := h1 j hj
    obtain ⟨h2, h4⟩ : us = [.int .u8 ((l[j] : Nat) : Int)] ∧ l[j] < 256 := h2
    subst h2
    have := h3 0 (by simp)
    have e : off + (j * byteR.k + 0) = off + j := by simp [byteR]
    rw [e] at this
    exact ⟨h4, b, off, rfl, this⟩
  refine ⟨fun x hx => ?_, fun hl => ?_⟩
  · obtain ⟨j, hj, rfl⟩ := List.getElem_of_mem hx
    exact (key0 j hj).1
  · obtain ⟨_, b, off, rfl, hc⟩ := key0 0 hl
    refine ⟨b, off, rfl, cell_lt hc, fun j hj => ?_⟩
    obtain ⟨_, b', off', e, hc'⟩ := key0 j hj
    injection e with e
    injection e with e1 e2
    rw [e1, e2]
    exact hc'
def insR : Rep Ins.Ins := mapR (fun x : Ins.Ins => (x.op, x.a, x.b, x.k, x.l)) (seqR intR (seqR intR (seqR intR (seqR intR (lstR intR)))))
theorem insR_at {w : World} {ok : Nat → Prop} {vs : List Value} {x : Ins.Ins} : insR.at_ w ok vs x ↔ ∃ A c, vs = [.int .i64 x.op, .int .i64 x.a, .int .i64 x.b, .int .i64 x.k, .slice A x.l.length c] ∧ Lst intR w ok A c x.l := by
  constructor
  · rintro ⟨u1, v1, rfl, h1, u2, v2, rfl, h2, u3, v3, rfl, h3, u4, v4, rfl, h4, A, c, rfl, h5⟩
    obtain rfl : u1 = [.int .i64 x.op] := h1
    obtain rfl : u2 = [.int .i64 x.a] := h2
    obtain rfl : u3 = [.int .i64 x.b] := h3
    obtain rfl : u4 = [.int .i64 x.k] := h4
    exact ⟨A, c, rfl, h5⟩
  · rintro ⟨A, c, rfl, h⟩
    exact ⟨[_], _, rfl, rfl, [_], _, rfl, rfl, [_], _, rfl, rfl, [_], _, rfl, rfl, A, c, rfl, h⟩
end Go.Proofs.Ytdcolpmmojiffaa.Mod
