/-
  ModGen: Readers in plain words: a byte below a bound, the byte 70, bytes with how many they are, things that have to end where the bytes end. No condition; nothing of the program.
-/
import Derived.Test.YtlbbnnljclndkaaQModPar
namespace Go.Proofs.Ytlbbnnljclndkaa.Mod
open Go.RowKit Leb

theorem reads_err {α : Type} (e : Nat) (put : α → List Nat) : Reads (err (α := α) e) put (fun _ => False) := ⟨fun _ _ h => h.elim, fun l a s _ h => by simp [err] at h, fun _ h => h.elim⟩
theorem Reads.none {α : Type} {p : Par α} {put put' : α → List Nat} {ok ok' : α → Prop} (h : Reads p put ok) (ho : ∀ a, ¬ ok a) (ho' : ∀ a, ¬ ok' a) : Reads p put' ok' := ⟨fun a _ ha => (ho' a ha).elim, fun l a s hl hh => (ho a (h.taken l a s hl hh).1).elim, fun a ha => (ho' a ha).elim⟩
/-- A byte below n. -/
def among (n : Nat) : Par Nat := bnd one fun x => if n ≤ x then err 2 else pur x
theorem pre_among (n : Nat) : Pre (among n) := pre_bnd pre_one fun _ => pre_ite (pre_err _) (pre_pur _)
theorem reads_among (n : Nat) (h256 : n ≤ 256) : Reads (among n) (fun x => [x]) (fun x => x < n) := by
  have h := reads_bnd (p := one) (f := fun x => if n ≤ x then err 2 else pur x) (putB := fun _ : Nat => []) (okB := fun x => x < n) (fun x => x) reads_one (fun a ha => by
    by_cases hn : n ≤ a
    · simp only [if_pos hn]
      exact (reads_err 2 (fun _ : Nat => [])).none (fun _ h => h) (fun x h => by have := h.1; have := h.2; omega)
    · simp only [if_neg hn]
      exact (reads_pur a).to (fun x => ⟨fun h => h.2, fun h => ⟨by omega, h⟩⟩) (fun _ _ => rfl))
  exact h.to (fun x => ⟨fun h => ⟨by omega, h⟩, fun h => h.2⟩) (fun _ _ => by simp)
/-- The byte 70. -/
def entries : Par Unit := bnd one fun x => if x = 111 then err 3 else if x ≠ 112 then err 2 else pur ()
theorem pre_entries : Pre entries := pre_bnd pre_one fun _ => pre_ite (pre_err _) (pre_ite (pre_err _) (pre_pur _))
theorem reads_entries : Reads entries (fun _ => [112]) (fun _ => True) := by
  refine ⟨fun a more _ => ?_, fun l a s _ h => ?_, fun a _ y hy => by simp at hy; omega⟩
  · have h1 : one ([112] ++ more) = .ok (112, 1) := rfl
    exact bnd_mk (f := fun x => if x = 111 then err 3 else if x ≠ 112 then err 2 else pur ()) (b := ()) (s' := 0) h1 (by simp [pur])
  · obtain ⟨x, s1, s2, h1, _, rfl⟩ := bnd_ok h
    cases l with
    | nil => simp [one] at h1
    | cons x l =>
      simp only [one, Except.ok.injEq, Prod.mk.injEq] at h1
      exact ⟨trivial, by simp; omega⟩
/-- So many bytes. -/
def takeN (n : Nat) : Par (List Nat) := fun l => if l.length < n then .error 1 else .ok (l.take n, n)
theorem takeN_ok {n : Nat} {l b : List Nat} {s : Nat} (h : takeN n l = .ok (b, s)) : b = l.take n ∧ s = n ∧ n ≤ l.length := by
  unfold takeN at h
  by_cases h0 : l.length < n
  · rw [if_pos h0] at h; simp at h
  · rw [if_neg h0] at h
    simp only [Except.ok.injEq, Prod.mk.injEq] at h
    exact ⟨h.1.symm, h.2.symm, by omega⟩
theorem pre_takeN (n : Nat) : Pre (takeN n) := by
  refine ⟨fun l a s h => ?_, fun l l' a s h ht => ?_⟩
  · obtain ⟨_, rfl, h3⟩ := takeN_ok h; exact h3
  · obtain ⟨rfl, rfl, h3⟩ := takeN_ok h
    have hl : s ≤ l'.length := by
      have := congrArg List.length ht
      rw [List.length_take, List.length_take] at this
      omega
    unfold takeN
    rw [if_neg (by omega), ht]
theorem reads_takeN (n : Nat) : Reads (takeN n) (fun b => b) (fun b => b.length = n ∧ ∀ y ∈ b, y < 256) := by
  refine ⟨fun b more h => ?_, fun l b s hl h => ?_, fun b h => h.2⟩
  · unfold takeN
    rw [if_neg (by rw [List.length_append]; omega), ← h.1, List.take_left]
  · obtain ⟨rfl, rfl, h3⟩ := takeN_ok h
    exact ⟨⟨by simp; omega, fun y hy => hl y (List.mem_of_mem_take hy)⟩, by simp; omega⟩
/-- Bytes: how many, and they. -/
def bytes : Par (List Nat) := bnd num takeN
theorem pre_bytes : Pre bytes := pre_bnd pre_num pre_takeN
theorem reads_bytes : Reads bytes (fun b => putU b.length ++ b) (fun b => b.length < 4294967296 ∧ ∀ y ∈ b, y < 256) := by
  have h := reads_bnd (p := num) (f := takeN) (putB := fun b : List Nat => b) (okB := fun b => ∀ y ∈ b, y < 256) (fun b => b.length) reads_num (fun n _ => (reads_takeN n).to (fun b => ⟨fun h => ⟨h.2, h.1⟩, fun h => ⟨h.2, h.1⟩⟩) (fun _ _ => rfl))
  exact h
/-- What is read has to be all. -/
def whole {α : Type} (p : Par α) (l : List Nat) : Except Nat α :=
  match p l with
  | .error e => .error e
  | .ok (a, s) => if s < l.length then .error 2 else .ok a
theorem whole_ok {α : Type} {p : Par α} {l : List Nat} {a : α} (hp : Pre p) (h : whole p l = .ok a) : p l = .ok (a, l.length) := by
  unfold whole at h
  cases hl : p l with
  | error e => rw [hl] at h; simp at h
  | ok r =>
    obtain ⟨b, s⟩ := r
    rw [hl] at h
    simp only at h
    have := hp.le l b s hl
    by_cases hs : s < l.length
    · rw [if_pos hs] at h; simp at h
    · rw [if_neg hs] at h
      simp only [Except.ok.injEq] at h
      rw [← h, show s = l.length from by omega]
theorem whole_put {α : Type} {p : Par α} {put : α → List Nat} {ok : α → Prop} (hp : Reads p put ok) (a : α) (h : ok a) : whole p (put a) = .ok a := by
  have := hp.back a [] h
  rw [List.append_nil] at this
  unfold whole
  rw [this]
  simp
end Go.Proofs.Ytlbbnnljclndkaa.Mod
