/-
  ModCode: Readers in plain words: a function's code: its locals in pairs, its body. No condition; nothing of the program.
-/
import Derived.Test.YtlbbnnljclndkaaQModElem
import Derived.Test.YtlbbnnljclndkaaQLeb
namespace Go.Proofs.Ytlbbnnljclndkaa.Mod
open Go.RowKit Leb

def sumP (ps : List (Nat × Nat)) : Nat := (ps.map fun p => p.1).sum
def pairB (p : Nat × Nat) : List Nat := putU p.1 ++ [p.2]
/-- So many pairs, c locals being there already. -/
def pairsP : Nat → Nat → Par (List (Nat × Nat))
  | 0, _ => pur []
  | n + 1, c => bnd num fun m => if 64 - c < m then err 4 else bnd valueP fun t => bnd (pairsP n (c + m)) fun ps => pur ((m, t) :: ps)
theorem pre_pairs (n c : Nat) : Pre (pairsP n c) := by
  induction n generalizing c with
  | zero => exact pre_pur _
  | succ n ih => exact pre_bnd pre_num fun m => pre_ite (pre_err _) (pre_bnd pre_value fun t => pre_bnd (ih _) fun _ => pre_pur _)
def pairsOk (n c : Nat) (ps : List (Nat × Nat)) : Prop := ps.length = n ∧ sumP ps + c ≤ 64 ∧ ∀ p ∈ ps, p.2 = 127 ∨ p.2 = 126
theorem reads_pairs (n c : Nat) (hc : c ≤ 64) : Reads (pairsP n c) (fun ps => ps.flatMap pairB) (pairsOk n c) := by
  induction n generalizing c with
  | zero =>
    refine (reads_pur ([] : List (Nat × Nat))).to (fun ps => ⟨fun h => List.eq_nil_of_length_eq_zero h.1, fun h => by subst h; exact ⟨rfl, by simp [sumP]; exact hc, by simp⟩⟩) (fun ps h => by subst h; rfl)
  | succ n ih =>
    refine ⟨fun ps more h => ?_, fun l ps s hl h => ?_, fun ps h y hy => ?_⟩
    · obtain ⟨h1, h2, h3⟩ := h
      cases ps with
      | nil => simp at h1
      | cons p ps =>
        obtain ⟨m, t⟩ := p
        have hm : m + sumP ps + c ≤ 64 := by simpa [sumP, Nat.add_assoc] using h2
        have hu := reads_num.back m ([t] ++ (ps.flatMap pairB ++ more)) (by omega)
        have hv := reads_value.back t (ps.flatMap pairB ++ more) (h3 (m, t) (by simp))
        have hr := (ih (c + m) (by omega)).back ps more ⟨by simpa using h1, by omega, fun p hp => h3 p (by simp [hp])⟩
        have e : ((m, t) :: ps).flatMap pairB ++ more = putU m ++ ([t] ++ (ps.flatMap pairB ++ more)) := by simp [pairB]
        rw [e]
        have h4 := bnd_mk (f := fun ps => pur ((m, t) :: ps)) (b := (m, t) :: ps) (s' := 0) hr rfl
        have h5 := bnd_mk (f := fun t => bnd (pairsP n (c + m)) fun ps => pur ((m, t) :: ps)) hv (by rw [List.drop_left]; exact h4)
        have h6 := bnd_mk (f := fun m => if 64 - c < m then err 4 else bnd valueP fun t => bnd (pairsP n (c + m)) fun ps => pur ((m, t) :: ps)) hu (by rw [List.drop_left]; simp only [if_neg (show ¬ 64 - c < m by omega)]; exact h5)
        have e2 : (((m, t) :: ps).flatMap pairB).length = (putU m).length + ([t].length + ((ps.flatMap pairB).length + 0)) := by simp [pairB]; omega
        rw [e2]
        exact h6
    · obtain ⟨m, s1, s2, h1, h2, rfl⟩ := bnd_ok h
      obtain ⟨k1, k2⟩ := uRes_small (num_ok h1)
      by_cases hm : 64 - c < m
      · simp [if_pos hm, err] at h2
      · simp only [if_neg hm] at h2
        obtain ⟨t, s3, s4, h3, h4, rfl⟩ := bnd_ok h2
        obtain ⟨ps', s5, s6, h5, h6, rfl⟩ := bnd_ok h4
        simp only [pur, Except.ok.injEq, Prod.mk.injEq] at h6
        obtain ⟨rfl, rfl⟩ := h6
        have hl1 : ∀ y ∈ l.drop s1, y < 256 := fun y hy => hl y (List.mem_of_mem_drop hy)
        obtain ⟨v1, v2⟩ := reads_value.taken _ t s3 hl1 h3
        obtain ⟨⟨r1, r2, r3⟩, r4⟩ := (ih (c + m) (by omega)).taken _ ps' s5 (fun y hy => hl1 y (List.mem_of_mem_drop hy)) h5
        refine ⟨⟨by simp [r1], by simp [sumP] at r2 ⊢; omega, fun p hp => ?_⟩, ?_⟩
        · rcases List.mem_cons.1 hp with rfl | hp
          · exact v1
          · exact r3 p hp
        · simp only [List.flatMap_cons, pairB, List.length_append] at v2 ⊢
          have : ([t] : List Nat).length = 1 := rfl
          omega
    · obtain ⟨p, hp, hy⟩ := List.mem_flatMap.1 hy
      rcases List.mem_append.1 hy with hy | hy
      · exact putUf_byte 9 _ y hy
      · have := h.2.2 p hp
        simp at hy
        omega
/-- The code as it is read. -/
structure RCode where
  ps : List (Nat × Nat)
  body : List Ins.Ins
def rcodeP : Par RCode := bnd num fun n => bnd (pairsP n 0) fun ps => bnd bodyP fun b => pur ⟨ps, b⟩
def rcodeB (x : RCode) : List Nat := putU x.ps.length ++ (x.ps.flatMap pairB ++ Ins.allBytes x.body)
def rcodeOk (x : RCode) : Prop := x.ps.length < 4294967296 ∧ sumP x.ps ≤ 64 ∧ (∀ p ∈ x.ps, p.2 = 127 ∨ p.2 = 126) ∧ Ins.closedI x.body
theorem pre_rcode : Pre rcodeP := pre_bnd pre_num fun _ => pre_bnd (pre_pairs _ _) fun _ => pre_bnd pre_body fun _ => pre_pur _
theorem reads_rcode : Reads rcodeP rcodeB rcodeOk := by
  refine (reads_bndD (okB := fun n x => x.ps.length = n ∧ sumP x.ps ≤ 64 ∧ (∀ p ∈ x.ps, p.2 = 127 ∨ p.2 = 126) ∧ Ins.closedI x.body) (putB := fun x : RCode => x.ps.flatMap pairB ++ Ins.allBytes x.body) (fun x => x.ps.length) reads_num (fun n _ => (reads_bndD (okB := fun ps x => x.ps = ps ∧ Ins.closedI x.body) (putB := fun x : RCode => Ins.allBytes x.body) (fun x => x.ps) (reads_pairs n 0 (by omega)) (fun ps _ => (reads_bndD (okB := fun b x => x = (⟨ps, b⟩ : RCode)) (putB := fun _ => []) (fun x => x.body) reads_body (fun b _ => reads_pur _) (fun b x h => by rw [h])).to (fun x => ⟨fun h => ?_, fun h => ?_⟩) (fun x _ => by simp)) (fun ps x h => h.1)).to (fun x => ⟨fun h => ⟨⟨h.1, h.2.1, h.2.2.1⟩, rfl, h.2.2.2⟩, fun h => ⟨h.1.1, h.1.2.1, h.1.2.2, h.2.2⟩⟩) (fun _ _ => rfl)) (fun n x h => h.1)).to (fun x => ⟨fun h => ⟨h.1, rfl, h.2⟩, fun h => ⟨h.1, h.2.2⟩⟩) (fun _ _ => rfl)
  · obtain ⟨rfl, h3⟩ := h
    exact ⟨h3, rfl⟩
  · obtain ⟨h1, h3⟩ := h
    rw [h3]
    exact ⟨rfl, h1⟩
/-- Locals in as few pairs as can be. -/
def runs : List Nat → List (Nat × Nat)
  | [] => []
  | t :: l => match runs l with
    | [] => [(1, t)]
    | (m, t') :: r => if t = t' then (m + 1, t) :: r else (1, t) :: (m, t') :: r
def expand (ps : List (Nat × Nat)) : List Nat := ps.flatMap fun p => List.replicate p.1 p.2
theorem runs_head (t : Nat) (l : List Nat) : ∃ m r, runs (t :: l) = (m, t) :: r := by
  simp only [runs]
  cases runs l with
  | nil => exact ⟨_, _, rfl⟩
  | cons p r =>
    obtain ⟨m, t'⟩ := p
    simp only
    by_cases h : t = t'
    · rw [if_pos h]; exact ⟨_, _, rfl⟩
    · rw [if_neg h]; exact ⟨_, _, rfl⟩
theorem expand_runs (l : List Nat) : expand (runs l) = l := by
  induction l with
  | nil => rfl
  | cons t l ih =>
    simp only [runs]
    cases hr : runs l with
    | nil => rw [hr] at ih; rw [← ih]; rfl
    | cons p r =>
      obtain ⟨m, t'⟩ := p
      rw [hr] at ih
      simp only
      by_cases h : t = t'
      · subst h
        rw [if_pos rfl, ← ih]
        simp [expand, List.replicate_succ]
      · rw [if_neg h, ← ih]
        simp [expand]
theorem sum_expand (ps : List (Nat × Nat)) : (expand ps).length = sumP ps := by
  induction ps with
  | nil => rfl
  | cons p ps ih =>
    simp only [expand, List.flatMap_cons, List.length_append, List.length_replicate, sumP, List.map_cons, List.sum_cons] at ih ⊢
    omega
theorem runs_cons (t : Nat) (l : List Nat) : (runs (t :: l)).length ≤ 1 + (runs l).length := by
  simp only [runs]
  cases runs l with
  | nil => simp
  | cons p r =>
    obtain ⟨m, t'⟩ := p
    simp only
    split <;> simp <;> omega
theorem runs_twice (t : Nat) (l : List Nat) : (runs (t :: t :: l)).length = (runs (t :: l)).length := by
  obtain ⟨m, r, h⟩ := runs_head t l
  have : runs (t :: t :: l) = (m + 1, t) :: r := by
    rw [runs, h]
    simp
  rw [this, h]
  simp
theorem runs_rep (m t : Nat) (l : List Nat) : (runs (List.replicate m t ++ l)).length ≤ 1 + (runs l).length := by
  induction m with
  | zero => simp
  | succ m ih =>
    cases m with
    | zero => exact runs_cons t l
    | succ m =>
      have : List.replicate (m + 1 + 1) t ++ l = t :: t :: (List.replicate m t ++ l) := by simp [List.replicate_succ]
      rw [this, runs_twice]
      have e : List.replicate (m + 1) t ++ l = t :: (List.replicate m t ++ l) := by simp [List.replicate_succ]
      rw [e] at ih
      exact ih
theorem runs_expand (ps : List (Nat × Nat)) : (runs (expand ps)).length ≤ ps.length := by
  induction ps with
  | nil => simp [expand, runs]
  | cons p ps ih =>
    have := runs_rep p.1 p.2 (expand ps)
    have e : expand (p :: ps) = List.replicate p.1 p.2 ++ expand ps := by simp [expand]
    rw [e]
    simp only [List.length_cons]
    omega
theorem runs_mem (l : List Nat) : ∀ p ∈ runs l, 1 ≤ p.1 ∧ p.2 ∈ l ∧ p.1 ≤ l.length := by
  induction l with
  | nil => simp [runs]
  | cons t l ih =>
    intro p hp
    simp only [runs] at hp
    cases hr : runs l with
    | nil =>
      rw [hr] at hp
      simp only [List.mem_singleton] at hp
      subst hp
      simp
    | cons p' r =>
      obtain ⟨m, t'⟩ := p'
      rw [hr] at hp ih
      simp only at hp
      by_cases h : t = t'
      · subst h
        rw [if_pos rfl] at hp
        rcases List.mem_cons.1 hp with rfl | hp
        · have := ih (m, t) (by simp)
          simp only at this
          exact ⟨by simp, by simp, by simp; exact this.2.2⟩
        · obtain ⟨a, b, c⟩ := ih p (by simp [hp])
          exact ⟨a, by simp [b], by simp; omega⟩
      · rw [if_neg h] at hp
        rcases List.mem_cons.1 hp with rfl | hp
        · simp
        · obtain ⟨a, b, c⟩ := ih p hp
          exact ⟨a, by simp [b], by simp; omega⟩
theorem runs_len (l : List Nat) : (runs l).length ≤ l.length := by
  induction l with
  | nil => simp [runs]
  | cons t l ih => have := runs_cons t l; simp; omega
/-- A function's code. -/
structure Code where
  locals : List Nat
  body : List Ins.Ins
def codeOf (r : RCode) : Code := ⟨expand r.ps, r.body⟩
def rawCode (x : Code) : RCode := ⟨runs x.locals, x.body⟩
def codeIn : Par Code := bnd rcodeP fun r => pur (codeOf r)
def codeInB (x : Code) : List Nat := rcodeB (rawCode x)
def codeOk (x : Code) : Prop := x.locals.length ≤ 64 ∧ (∀ t ∈ x.locals, t = 127 ∨ t = 126) ∧ Ins.closedI x.body
theorem pre_codeIn : Pre codeIn := pre_map codeOf pre_rcode
theorem pairs_small (ps : List (Nat × Nat)) (h : ∀ p ∈ ps, p.1 < 128) : (ps.flatMap pairB).length = 2 * ps.length := by
  induction ps with
  | nil => rfl
  | cons p ps ih =>
    have h1 := ih (fun q hq => h q (by simp [hq]))
    simp only [List.flatMap_cons, pairB, List.length_append, putU_small (h p (by simp)), List.length_cons, List.length_nil] at h1 ⊢
    omega
theorem pairs_large (ps : List (Nat × Nat)) : 2 * ps.length ≤ (ps.flatMap pairB).length := by
  induction ps with
  | nil => simp
  | cons p ps ih =>
    have hp := (putUf_len 9 p.1).1
    have : 1 ≤ (putU p.1).length := hp
    simp only [List.flatMap_cons, pairB, List.length_append, List.length_cons, List.length_nil] at ih ⊢
    omega
theorem reads_codeIn : Reads codeIn codeInB codeOk := by
  refine reads_map codeOf rawCode codeOk reads_rcode (fun x h => ?_) (fun r h => ?_)
  · obtain ⟨h1, h2, h3⟩ := h
    refine ⟨⟨?_, ?_, fun p hp => ?_, h3⟩, ?_⟩
    · have := runs_len x.locals
      show (runs x.locals).length < 4294967296
      omega
    · show sumP (runs x.locals) ≤ 64
      rw [← sum_expand, expand_runs]; exact h1
    · exact h2 _ (runs_mem x.locals p hp).2.1
    · cases x with
      | mk lo b => unfold codeOf rawCode; simp only [expand_runs]
  · obtain ⟨h1, h2, h3, h4⟩ := h
    have hlen : (expand r.ps).length ≤ 64 := by rw [sum_expand]; exact h2
    refine ⟨⟨hlen, fun t ht => ?_, h4⟩, ?_⟩
    · obtain ⟨p, hp, ht⟩ := List.mem_flatMap.1 ht
      rw [List.eq_of_mem_replicate ht]
      exact h3 p hp
    · have hre := runs_expand r.ps
      have hrl := runs_len (expand r.ps)
      have hs := pairs_small (runs (expand r.ps)) (fun p hp => by have := (runs_mem _ p hp).2.2; omega)
      have hl := pairs_large r.ps
      have e1 : (putU (runs (expand r.ps)).length).length = 1 := by rw [putU_small (by omega)]; rfl
      have e2 : 1 ≤ (putU r.ps.length).length := (putUf_len 9 _).1
      show (rcodeB (rawCode (codeOf r))).length ≤ (rcodeB r).length
      unfold rcodeB rawCode codeOf
      simp only [List.length_append, hs, e1]
      omega
/-- The same, with how many bytes it has ahead. -/
def codeP : Par Code := bnd bytes fun b => match whole codeIn b with
  | .error e => err e
  | .ok x => pur x
def codeB (x : Code) : List Nat := bytesB (codeInB x)
theorem pre_code : Pre codeP := pre_bnd pre_bytes fun b => by
  cases whole codeIn b with
  | error e => exact pre_err e
  | ok x => exact pre_pur x
theorem codeIn_len (x : Code) (h : codeOk x) : (codeInB x).length ≤ 3000000 := by
  obtain ⟨h1, h2, h3⟩ := h
  have hb := (Ins.closed_bytes x.body h3).2
  have hrl := runs_len x.locals
  have hs := pairs_small (runs x.locals) (fun p hp => by have := (runs_mem _ p hp).2.2; omega)
  have hp : (putU (runs x.locals).length).length ≤ 10 := (putUf_len 9 _).2
  show (rcodeB (rawCode x)).length ≤ 3000000
  unfold rcodeB rawCode
  simp only [List.length_append, hs]
  omega
theorem reads_code : Reads codeP codeB codeOk := by
  refine ⟨fun x more h => ?_, fun l x s hl h => ?_, fun x h y hy => ?_⟩
  · have hlen := codeIn_len x h
    have h1 := reads_bytes.back (codeInB x) more ⟨by omega, reads_codeIn.byte x h⟩
    have h2 := bnd_mk (f := fun b => match whole codeIn b with | .error e => err e | .ok x => pur x) (b := x) (s' := 0) h1 (by simp only [whole_put reads_codeIn x h]; rfl)
    exact h2
  · obtain ⟨b, s1, s2, h1, h2, rfl⟩ := bnd_ok h
    obtain ⟨⟨k1, k2⟩, k3⟩ := reads_bytes.taken l b s1 hl h1
    cases hw : whole codeIn b with
    | error e => simp [hw, err] at h2
    | ok z =>
      simp only [hw, pur, Except.ok.injEq, Prod.mk.injEq] at h2
      obtain ⟨rfl, rfl⟩ := h2
      obtain ⟨g1, g2⟩ := reads_codeIn.taken b z b.length k2 (whole_ok pre_codeIn hw)
      have hm := putU_mono (codeInB z).length b.length g2 (by omega)
      refine ⟨g1, ?_⟩
      show (bytesB (codeInB z)).length ≤ s1 + 0
      unfold bytesB
      simp only [List.length_append] at k3 ⊢
      omega
  · unfold codeB bytesB at hy
    rcases List.mem_append.1 hy with hy | hy
    · exact putUf_byte 9 _ y hy
    · exact reads_codeIn.byte x h y hy
end Go.Proofs.Ytlbbnnljclndkaa.Mod
