/-
  ModPar: Readers in plain words: of bytes either the error, or what is read and how many bytes it takes; one behind the other; lists; what a reader and its writer have to do with one another ('Reads'). No condition; nothing of the program.
-/
import Derived.Test.YtlbbnnljclndkaaQSec
import Derived.Test.YtlbbnnljclndkaaQLeb
namespace Go.Proofs.Ytlbbnnljclndkaa.Mod
open Go.RowKit Leb

/-- A reader. -/
abbrev Par (α : Type) := List Nat → Except Nat (α × Nat)
def pur {α : Type} (a : α) : Par α := fun _ => .ok (a, 0)
def err {α : Type} (e : Nat) : Par α := fun _ => .error e
def bnd {α β : Type} (p : Par α) (f : α → Par β) : Par β := fun l =>
  match p l with
  | .error e => .error e
  | .ok (a, s) => match f a (l.drop s) with
    | .error e => .error e
    | .ok (b, s') => .ok (b, s + s')
theorem bnd_ok {α β : Type} {p : Par α} {f : α → Par β} {l : List Nat} {b : β} {n : Nat} (h : bnd p f l = .ok (b, n)) : ∃ a s s', p l = .ok (a, s) ∧ f a (l.drop s) = .ok (b, s') ∧ n = s + s' := by
  unfold bnd at h
  cases hp : p l with
  | error e => rw [hp] at h; simp at h
  | ok r =>
    obtain ⟨a, s⟩ := r
    rw [hp] at h
    simp only at h
    cases hf : f a (l.drop s) with
    | error e => rw [hf] at h; simp at h
    | ok r' =>
      obtain ⟨b', s'⟩ := r'
      rw [hf] at h
      simp only [Except.ok.injEq, Prod.mk.injEq] at h
      obtain ⟨rfl, rfl⟩ := h
      exact ⟨a, s, s', rfl, hf, rfl⟩
theorem bnd_mk {α β : Type} {p : Par α} {f : α → Par β} {l : List Nat} {a : α} {b : β} {s s' : Nat} (h : p l = .ok (a, s)) (h' : f a (l.drop s) = .ok (b, s')) : bnd p f l = .ok (b, s + s') := by
  unfold bnd; rw [h]; simp only; rw [h']
theorem bnd_err {α β : Type} {p : Par α} {f : α → Par β} {l : List Nat} {e : Nat} (h : p l = .error e) : bnd p f l = .error e := by unfold bnd; rw [h]
theorem bnd_err2 {α β : Type} {p : Par α} {f : α → Par β} {l : List Nat} {a : α} {s e : Nat} (h : p l = .ok (a, s)) (h' : f a (l.drop s) = .error e) : bnd p f l = .error e := by unfold bnd; rw [h]; simp only; rw [h']
/-- A reader that looks at no bytes but those that it takes. -/
structure Pre {α : Type} (p : Par α) : Prop where
  le : ∀ l a s, p l = .ok (a, s) → s ≤ l.length
  pre : ∀ l l' a s, p l = .ok (a, s) → l.take s = l'.take s → p l' = .ok (a, s)
theorem pre_pur {α : Type} (a : α) : Pre (pur a) := ⟨fun l b s h => by simp only [pur, Except.ok.injEq, Prod.mk.injEq] at h; omega, fun l l' b s h _ => h⟩
theorem pre_err {α : Type} (e : Nat) : Pre (err (α := α) e) := ⟨fun l b s h => by simp [err] at h, fun l l' b s h _ => by simp [err] at h⟩
theorem pre_bnd {α β : Type} {p : Par α} {f : α → Par β} (hp : Pre p) (hf : ∀ a, Pre (f a)) : Pre (bnd p f) := by
  refine ⟨fun l b n h => ?_, fun l l' b n h ht => ?_⟩
  · obtain ⟨a, s, s', h1, h2, rfl⟩ := bnd_ok h
    have := hp.le l a s h1
    have := (hf a).le _ b s' h2
    rw [List.length_drop] at this
    omega
  · obtain ⟨a, s, s', h1, h2, rfl⟩ := bnd_ok h
    have ht1 : l.take s = l'.take s := by
      have := congrArg (List.take s) ht
      rwa [List.take_take, List.take_take, Nat.min_eq_left (by omega)] at this
    have ht2 : (l.drop s).take s' = (l'.drop s).take s' := by
      have := congrArg (List.drop s) ht
      rwa [List.drop_take, List.drop_take, show s + s' - s = s' from by omega] at this
    exact bnd_mk (hp.pre l l' a s h1 ht1) ((hf a).pre _ _ b s' h2 ht2)
theorem pre_ite {α : Type} {c : Prop} [Decidable c] {p q : Par α} (hp : Pre p) (hq : Pre q) : Pre (if c then p else q) := by
  split <;> assumption
/-- A reader, what it may give, and how that is put. -/
structure Reads {α : Type} (p : Par α) (put : α → List Nat) (ok : α → Prop) : Prop where
  back : ∀ a more, ok a → p (put a ++ more) = .ok (a, (put a).length)
  taken : ∀ l a s, (∀ y ∈ l, y < 256) → p l = .ok (a, s) → ok a ∧ (put a).length ≤ s
  byte : ∀ a, ok a → ∀ y ∈ put a, y < 256
theorem reads_pur {α : Type} (a : α) : Reads (pur a) (fun _ => []) (fun b => b = a) :=
  ⟨fun b more h => by subst h; rfl, fun l b s _ h => by simp only [pur, Except.ok.injEq, Prod.mk.injEq] at h; exact ⟨h.1.symm, by simp⟩, by simp⟩
/-- One behind the other: 'prj' tells of what is read in all what was read first. -/
theorem reads_bnd {α β : Type} {p : Par α} {f : α → Par β} {putA : α → List Nat} {putB : β → List Nat} {okA : α → Prop} {okB : β → Prop} (prj : β → α) (hp : Reads p putA okA) (hf : ∀ a, okA a → Reads (f a) putB (fun b => okB b ∧ prj b = a)) :
    Reads (bnd p f) (fun b => putA (prj b) ++ putB b) (fun b => okA (prj b) ∧ okB b) := by
  refine ⟨fun b more h => ?_, fun l b n hl h => ?_, fun b h y hy => ?_⟩
  · have h1 := hp.back (prj b) (putB b ++ more) h.1
    have h2 := (hf (prj b) h.1).back b more ⟨h.2, rfl⟩
    rw [List.append_assoc, List.length_append]
    exact bnd_mk h1 (by rw [List.drop_left]; exact h2)
  · obtain ⟨a, s, s', h1, h2, rfl⟩ := bnd_ok h
    obtain ⟨k1, k2⟩ := hp.taken l a s hl h1
    obtain ⟨⟨k3, k4⟩, k5⟩ := (hf a k1).taken _ b s' (fun y hy => hl y (List.mem_of_mem_drop hy)) h2
    subst k4
    exact ⟨⟨k1, k3⟩, by rw [List.length_append]; omega⟩
  · rcases List.mem_append.1 hy with hy | hy
    · exact hp.byte _ h.1 y hy
    · exact (hf (prj b) h.1).byte b ⟨h.2, rfl⟩ y hy
theorem Reads.to {α : Type} {p : Par α} {put put' : α → List Nat} {ok ok' : α → Prop} (h : Reads p put ok) (ho : ∀ a, ok' a ↔ ok a) (hp : ∀ a, ok a → put' a = put a) : Reads p put' ok' :=
  ⟨fun a more ha => by rw [hp a ((ho a).1 ha)]; exact h.back a more ((ho a).1 ha), fun l a s hl hh => by
    obtain ⟨h1, h2⟩ := h.taken l a s hl hh
    exact ⟨(ho a).2 h1, by rw [hp a h1]; exact h2⟩, fun a ha => by rw [hp a ((ho a).1 ha)]; exact h.byte a ((ho a).1 ha)⟩
/-- So many of them. -/
def rep {α : Type} (p : Par α) : Nat → Par (List α)
  | 0 => pur []
  | n + 1 => bnd p fun a => bnd (rep p n) fun xs => pur (a :: xs)
theorem pre_rep {α : Type} {p : Par α} (hp : Pre p) (n : Nat) : Pre (rep p n) := by
  induction n with
  | zero => exact pre_pur _
  | succ n ih => exact pre_bnd hp fun a => pre_bnd ih fun xs => pre_pur _
theorem reads_rep {α : Type} {p : Par α} {put : α → List Nat} {ok : α → Prop} (hp : Reads p put ok) (n : Nat) : Reads (rep p n) (fun xs => xs.flatMap put) (fun xs => xs.length = n ∧ ∀ a ∈ xs, ok a) := by
  induction n with
  | zero =>
    refine ⟨fun xs more h => ?_, fun l xs s _ h => ?_, fun xs h y hy => ?_⟩
    · have : xs = [] := List.eq_nil_of_length_eq_zero h.1
      subst this; rfl
    · simp only [rep, pur, Except.ok.injEq, Prod.mk.injEq] at h
      obtain ⟨rfl, rfl⟩ := h
      simp
    · have : xs = [] := List.eq_nil_of_length_eq_zero h.1
      subst this; simp at hy
  | succ n ih =>
    refine ⟨fun xs more h => ?_, fun l xs s hl h => ?_, fun xs h y hy => ?_⟩
    · cases xs with
      | nil => simp at h
      | cons a xs =>
        have h1 := hp.back a (xs.flatMap put ++ more) (h.2 a (by simp))
        have h2 := ih.back xs more ⟨by have := h.1; simp at this; exact this, fun b hb => h.2 b (by simp [hb])⟩
        rw [List.flatMap_cons, List.append_assoc, List.length_append]
        refine bnd_mk h1 ?_
        rw [List.drop_left]
        have h3 := bnd_mk (f := fun xs => pur (a :: xs)) (b := a :: xs) (s' := 0) h2 rfl
        exact h3
    · obtain ⟨a, s1, s2, h1, h2, rfl⟩ := bnd_ok h
      obtain ⟨xs2, s3, s4, h3, h4, rfl⟩ := bnd_ok h2
      simp only [pur, Except.ok.injEq, Prod.mk.injEq] at h4
      obtain ⟨rfl, rfl⟩ := h4
      obtain ⟨k1, k2⟩ := hp.taken l a s1 hl h1
      obtain ⟨⟨k3, k4⟩, k5⟩ := ih.taken _ xs2 s3 (fun y hy => hl y (List.mem_of_mem_drop hy)) h3
      refine ⟨⟨by simp [k3], fun b hb => ?_⟩, by rw [List.flatMap_cons, List.length_append]; omega⟩
      rcases List.mem_cons.1 hb with rfl | hb
      · exact k1
      · exact k4 b hb
    · obtain ⟨a, ha, hy⟩ := List.mem_flatMap.1 hy
      exact hp.byte a (h.2 a ha) y hy
/-- A byte, and a number. -/
def one : Par Nat
  | [] => .error 1
  | x :: _ => .ok (x, 1)
theorem pre_one : Pre one := by
  refine ⟨fun l a s h => ?_, fun l l' a s h ht => ?_⟩
  · cases l with
    | nil => simp [one] at h
    | cons x l => simp only [one, Except.ok.injEq, Prod.mk.injEq] at h; simp; omega
  · cases l with
    | nil => simp [one] at h
    | cons x l =>
      simp only [one, Except.ok.injEq, Prod.mk.injEq] at h
      obtain ⟨rfl, rfl⟩ := h
      cases l' with
      | nil => simp at ht
      | cons y l' => simp at ht; subst ht; rfl
theorem reads_one : Reads one (fun x => [x]) (fun x => x < 256) :=
  ⟨fun a more _ => rfl, fun l a s hl h => by
    cases l with
    | nil => simp [one] at h
    | cons x l =>
      simp only [one, Except.ok.injEq, Prod.mk.injEq] at h
      obtain ⟨rfl, rfl⟩ := h
      exact ⟨hl _ (by simp), by simp⟩, fun a h y hy => by simp at hy; omega⟩
def num : Par Nat := fun l => if (uRes l 32).2.2 = 0 then .ok ((uRes l 32).1, (uRes l 32).2.1) else .error (uRes l 32).2.2
theorem num_ok {l : List Nat} {u s : Nat} (h : num l = .ok (u, s)) : uRes l 32 = (u, s, 0) := by
  unfold num at h
  by_cases h0 : (uRes l 32).2.2 = 0
  · rw [if_pos h0] at h
    simp only [Except.ok.injEq, Prod.mk.injEq] at h
    rw [← h.1, ← h.2, ← h0]
  · rw [if_neg h0] at h; simp at h
theorem num_mk {l : List Nat} {u s : Nat} (h : uRes l 32 = (u, s, 0)) : num l = .ok (u, s) := by unfold num; rw [h]; rfl
theorem num_bad {l : List Nat} {u s e : Nat} (h : uRes l 32 = (u, s, e)) (he : e ≠ 0) : num l = .error e := by unfold num; rw [h, if_neg he]
theorem pre_num : Pre num := ⟨fun l a s h => (Sec.uRes_in (num_ok h)).2, fun l l' a s h ht => num_mk (Sec.uRes_pre (by omega) (num_ok h) ht)⟩
theorem uRes_small {l : List Nat} {u s : Nat} (h : uRes l 32 = (u, s, 0)) : (putU u).length ≤ s ∧ u < 4294967296 := by
  obtain ⟨hi1, hi2⟩ := Sec.uRes_in h
  obtain ⟨hg, hn⟩ := Sec.uRes_is h
  obtain ⟨h1, h2, h3, h4⟩ := Sec.gath_is hg
  have h32 := (uRes_32 l (by rw [h])).1
  rw [h] at h32
  refine ⟨putUf_least 9 u s hi1 ?_, h32⟩
  have h5 := val_lt (l.take s)
  rw [show (l.take s).length = s from by simp; omega] at h5
  rw [h4, ← h3]
  unfold gv
  exact Nat.lt_of_le_of_lt (Nat.mod_le _ _) h5
theorem reads_num : Reads num putU (fun u => u < 4294967296) :=
  ⟨fun u more h => num_mk (uRes_put u 32 more (by omega) (by omega) (by simpa using h)), fun l u s _ h => ⟨(uRes_small (num_ok h)).2, (uRes_small (num_ok h)).1⟩, fun u _ => putUf_byte 9 u⟩
/-- A list: how many, at most 64, and they. -/
def many {α : Type} (p : Par α) : Par (List α) := bnd num fun n => if 64 < n then err 4 else rep p n
theorem pre_many {α : Type} {p : Par α} (hp : Pre p) : Pre (many p) := pre_bnd pre_num fun n => pre_ite (pre_err _) (pre_rep hp n)
theorem reads_many {α : Type} {p : Par α} {put : α → List Nat} {ok : α → Prop} (hp : Reads p put ok) : Reads (many p) (fun xs => putU xs.length ++ xs.flatMap put) (fun xs => xs.length ≤ 64 ∧ ∀ a ∈ xs, ok a) := by
  have h := reads_bnd (p := num) (f := fun n => if 64 < n then err 4 else rep p n) (putB := fun xs : List α => xs.flatMap put) (okB := fun xs => xs.length ≤ 64 ∧ ∀ a ∈ xs, ok a) (fun xs => xs.length) reads_num (fun n hn => by
    by_cases h64 : 64 < n
    · simp only [if_pos h64]
      exact ⟨fun xs more h => by have := h.1.1; have := h.2; omega, fun l xs s _ h => by simp [err] at h, fun xs h => by have := h.1.1; have := h.2; omega⟩
    · simp only [if_neg h64]
      exact (reads_rep hp n).to (fun xs => ⟨fun h => ⟨h.2, h.1.2⟩, fun h => ⟨⟨by have := h.1; omega, h.2⟩, h.1⟩⟩) (fun _ _ => rfl))
  exact h.to (fun xs => ⟨fun h => ⟨by omega, h⟩, fun h => h.2⟩) (fun _ _ => rfl)
end Go.Proofs.Ytlbbnnljclndkaa.Mod
