/-
  ModPar: Readers in plain words: of bytes either the error, or what is read and how many bytes it takes; one behind the other; lists; what a reader and its writer have to do with one another ('Reads'). No condition; nothing of the program.
-/
import Derived.Test.YtdcolpmmojiffaaQSec
import Derived.Test.YtdcolpmmojiffaaQLeb
namespace Go.Proofs.Ytdcolpmmojiffaa.Mod
open Go.RowKit Leb

abbrev Par (α : Type) := List Nat → Except Nat (α × Nat)
def pur {α : Type} (a : α) : Par α := fun _ => .ok (a, 0)
def err {α : Type} (e : Nat) : Par α := fun _ => .error e
def bnd {α β : Type} (p : Par α) (f : α → Par β) : Par β := fun l =>
  match p l with
  | .error e => .error e
  | .ok (a, s) => match f a (l.drop s) with
    | .error e => .error e
    | .ok (b, s') => .ok (b, s + s')
theorem bnd_ok {α β : Type} {p : Par α} {f : α → Par β} {l : List Nat} {b : β} {n : Nat} (h : bnd p f l = .ok (b, n)) : ∃ a s s', p l = .ok (a, s) ∧ f a (l.drop s) = .ok (b, s') ∧ n = s + s' := by
  unfold bnd at h
  cases hp : p l with
  | error e => rw [hp] at h; simp at h
  | ok r =>
    obtain ⟨a, s⟩ := r
    rw [hp] at h
    simp only at h
    cases hf : f a (l.drop s) with
    | error e => rw [hf] at h; simp at h
    | ok r' =>
      obtain ⟨b', s'⟩ := r'
      rw [hf] at h
      simp only [Except.ok.injEq, Prod.mk.injEq] at h
      obtain ⟨rfl, rfl⟩ := h
      exact ⟨a, s, s', rfl, hf, rfl⟩
theorem bnd_mk {α β : Type} {p : Par α} {f : α → Par β} {l : List Nat} {a : α} {b : β} {s s' : Nat} (h : p l = .ok (a, s)) (h' : f a (l.drop s) = .ok (b, s')) : bnd p f l = .ok (b, s + s') := by
  unfold bnd; rw [h]; simp only; rw [h']
structure Reads {α : Type} (p : Par α) (put : α → List Nat) (ok : α → Prop) : Prop where
  back : ∀ a more, ok a → p (put a ++ more) = .ok (a, (put a).length)
  taken : ∀ l a s, (∀ y ∈ l, y < 256) → p l = .ok (a, s) → ok a ∧ (put a).length ≤ s
  byte : ∀ a, ok a → ∀ y ∈ put a, y < 256
theorem reads_bnd {α β : Type} {p : Par α} {f : α → Par β} {putA : α → List Nat} {putB : β → List Nat} {okA : α → Prop} {okB : β → Prop} (prj : β → α) (hp : Reads p putA okA) (hf : ∀ a, okA a → Reads (f a) putB (fun b => okB b ∧ prj b = a)) :
    Reads (bnd p f) (fun b => putA (prj b) ++ putB b) (fun b => okA (prj b) ∧ okB b) := by
  refine ⟨fun b more h => ?_, fun l b n hl h => ?_, fun b h y hy => ?_⟩
  · have h1 := hp.back (prj b) (putB b ++ more) h.1
    have h2 := (hf (prj b) h.1).back b more ⟨h.2, rfl⟩
    rw [List.append_assoc, List.length_append]
    exact bnd_mk h1 (by rw [List.drop_left]; exact h2)
  · obtain ⟨a, s, s', h1, h2, rfl⟩ := bnd_ok h
    obtain ⟨k1, k2⟩ := hp.taken l a s hl h1
    obtain ⟨⟨k3, k4⟩, k5⟩ := (hf a k1).taken _ b s' (fun y hy => hl y (List.mem_of_mem_drop hy)) h2
    subst k4
    exact ⟨⟨k1, k3⟩, by rw [List.length_append]; omega⟩
  · rcases List.mem_append.1 hy with hy | hy
    · exact hp.byte _ h.1 y hy
    · exact (hf (prj b) h.1).byte b ⟨h.2, rfl⟩ y hy
theorem Reads.to {α : Type} {p : Par α} {put put' : α → List Nat} {ok ok' : α → Prop} (h : Reads p put ok) (ho : ∀ a, ok' a ↔ ok a) (hp : ∀ a, ok a → put' a = put a) : Reads p put' ok' :=
  ⟨fun a more ha => by rw [hp a ((ho a).1 ha)]; exact h.back a more ((ho a).1 ha), fun l a s hl hh => by
    obtain ⟨h1, h2⟩ := h.taken l a s hl hh
    exact ⟨(ho a).2 h1, by rw [hp a h1]; exact h2⟩, fun a ha => by rw [hp a ((ho a).1 ha)]; exact h.byte a ((ho a).1 ha)⟩
def rep {α : Type} (p : Par α) : Nat → Par (List α)
  | 0 => pur []
  | n + 1 => bnd p fun a => bnd (rep p n) fun xs => pur (a :: xs)
def one : Par Nat
  | [] => .error 1
  | x :: _ => .ok (x, 1)
def num : Par Nat := fun l => if (uRes l 32).2.2 = 0 then .ok ((uRes l 32).1, (uRes l 32).2.1) else .error (uRes l 32).2.2
theorem num_ok {l : List Nat} {u s : Nat} (h : num l = .ok (u, s)) : uRes l 32 = (u, s, 0) := by
  unfold num at h
  by_cases h0 : (uRes l 32).2.2 = 0
  · rw [if_pos h0] at h
    simp only [Except.ok.injEq, Prod.mk.injEq] at h
    rw [← h.1, ← h.2, ← h0]
  · rw [if_neg h0] at h; simp at h
theorem num_mk {l : List Nat} {u s : Nat} (h : uRes l 32 = (u, s, 0)) : num l = .ok (u, s) := by unfold num; rw [h]; rfl
theorem uRes_small {l : List Nat} {u s : Nat} (h : uRes l 32 = (u, s, 0)) : (putU u).length ≤ s ∧ u < 4294967296 := by
  obtain ⟨hi1, hi2⟩ := Sec.uRes_in h
  obtain ⟨hg, hn⟩ := Sec.uRes_is h
  obtain ⟨h1, h2, h3, h4⟩ := Sec.gath_is hg
  have h32 := (uRes_32 l (by rw [h])).1
  rw [h] at h32
  refine ⟨putUf_least 9 u s hi1 ?_, h32⟩
  have h5 := val_lt (l.take s)
  rw [show (l.take s).length = s from by simp; omega] at h5
  rw [h4, ← h3]
  unfold gv
  exact Nat.lt_of_le_of_lt (Nat.mod_le _ _) h5
theorem reads_num : Reads num putU (fun u => u < 4294967296) :=
  ⟨fun u more h => num_mk (uRes_put u 32 more (by omega) (by omega) (by simpa using h)), fun l u s _ h => ⟨(uRes_small (num_ok h)).2, (uRes_small (num_ok h)).1⟩, fun u _ => putUf_byte 9 u⟩
def many {α : Type} (p : Par α) : Par (List α) := bnd num fun n => if 64 < n then err 4 else rep p n
end Go.Proofs.Ytdcolpmmojiffaa.Mod
