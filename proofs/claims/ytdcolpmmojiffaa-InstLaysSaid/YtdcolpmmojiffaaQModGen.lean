/-
  ModGen: Readers in plain words: a byte below a bound, the byte 70, bytes with how many they are, things that have to end where the bytes end. No condition; nothing of the program.
-/
import Derived.Test.YtdcolpmmojiffaaQModPar
namespace Go.Proofs.Ytdcolpmmojiffaa.Mod
open Go.RowKit Leb

theorem Reads.none {α : Type} {p : Par α} {put put' : α → List Nat} {ok ok' : α → Prop} (h : Reads p put ok) (ho : ∀ a, ¬ ok a) (ho' : ∀ a, ¬ ok' a) : Reads p put' ok' := ⟨fun a _ ha => (ho' a ha).elim, fun l a s hl hh => (ho a (h.taken l a s hl hh).1).elim, fun a ha => (ho' a ha).elim⟩
def takeN (n : Nat) : Par (List Nat) := fun l => if l.length < n then .error 1 else .ok (l.take n, n)
theorem takeN_ok {n : Nat} {l b : List Nat} {s : Nat} (h : takeN n l = .ok (b, s)) : b = l.take n ∧ s = n ∧ n ≤ l.length := by
  unfold takeN at h
  by_cases h0 : l.length < n
  · rw [if_pos h0] at h; simp at h
  · rw [if_neg h0] at h
    simp only [Except.ok.injEq, Prod.mk.injEq] at h
    exact ⟨h.1.symm, h.2.symm, by omega⟩
theorem reads_takeN (n : Nat) : Reads (takeN n) (fun b => b) (fun b => b.length = n ∧ ∀ y ∈ b, y < 256) := by
  refine ⟨fun b more h => ?_, fun l b s hl h => ?_, fun b h => h.2⟩
  · unfold takeN
    rw [if_neg (by rw [List.length_append]; omega), ← h.1, List.take_left]
  · obtain ⟨rfl, rfl, h3⟩ := takeN_ok h
    exact ⟨⟨by simp; omega, fun y hy => hl y (List.mem_of_mem_take hy)⟩, by simp; omega⟩
def bytes : Par (List Nat) := bnd num takeN
theorem reads_bytes : Reads bytes (fun b => putU b.length ++ b) (fun b => b.length < 4294967296 ∧ ∀ y ∈ b, y < 256) := by
  have h := reads_bnd (p := num) (f := takeN) (putB := fun b : List Nat => b) (okB := fun b => ∀ y ∈ b, y < 256) (fun b => b.length) reads_num (fun n _ => (reads_takeN n).to (fun b => ⟨fun h => ⟨h.2, h.1⟩, fun h => ⟨h.2, h.1⟩⟩) (fun _ _ => rfl))
  exact h
end Go.Proofs.Ytdcolpmmojiffaa.Mod
