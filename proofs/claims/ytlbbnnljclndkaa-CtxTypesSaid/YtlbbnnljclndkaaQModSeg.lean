/-
  ModSeg: Readers in plain words: a segment of data, a segment of the table: in each form they may be read in, put in one. No condition; nothing of the program.
-/
import Derived.Test.YtlbbnnljclndkaaQModThing
namespace Go.Proofs.Ytlbbnnljclndkaa.Mod
open Go.RowKit Leb

/-- What is read is turned; one form of it is put. -/
theorem reads_map {α β : Type} {p : Par α} {putA : α → List Nat} {okA : α → Prop} (g : α → β) (can : β → α) (okB : β → Prop) (hp : Reads p putA okA) (hcan : ∀ b, okB b → okA (can b) ∧ g (can b) = b) (hle : ∀ a, okA a → okB (g a) ∧ (putA (can (g a))).length ≤ (putA a).length) :
    Reads (bnd p fun a => pur (g a)) (fun b => putA (can b)) okB := by
  refine ⟨fun b more h => ?_, fun l b n hl h => ?_, fun b h y hy => hp.byte _ (hcan b h).1 y hy⟩
  · obtain ⟨h1, h2⟩ := hcan b h
    have h3 := bnd_mk (f := fun a => pur (g a)) (b := g (can b)) (s' := 0) (hp.back (can b) more h1) rfl
    rw [h2] at h3
    exact h3
  · obtain ⟨a, s, s', h1, h2, rfl⟩ := bnd_ok h
    simp only [pur, Except.ok.injEq, Prod.mk.injEq] at h2
    obtain ⟨rfl, rfl⟩ := h2
    obtain ⟨k1, k2⟩ := hp.taken l a s hl h1
    obtain ⟨k3, k4⟩ := hle a k1
    exact ⟨k3, by omega⟩
theorem pre_map {α β : Type} {p : Par α} (g : α → β) (hp : Pre p) : Pre (bnd p fun a => pur (g a)) := pre_bnd hp fun _ => pre_pur _
theorem putU_0 : putU 0 = [0] := by decide
theorem putU_small {n : Nat} (h : n < 128) : putU n = [n] := by
  unfold putU
  unfold putUf
  rw [if_pos h]
/-- The number of the one table, or memory. -/
def zeroP : Par Unit := bnd num fun t => if t ≠ 0 then err 3 else pur ()
theorem pre_zero : Pre zeroP := pre_bnd pre_num fun _ => pre_ite (pre_err _) (pre_pur _)
theorem reads_zero : Reads zeroP (fun _ => [0]) (fun _ => True) := by
  refine ⟨fun a more _ => ?_, fun l a s _ h => ?_, fun a _ y hy => by simp at hy; omega⟩
  · have h1 := reads_num.back 0 more (by omega)
    rw [putU_0] at h1
    exact bnd_mk (f := fun t => if t ≠ 0 then err 3 else pur ()) (b := ()) (s' := 0) h1 (by simp [pur])
  · obtain ⟨x, s1, s2, h1, _, rfl⟩ := bnd_ok h
    have := (Sec.uRes_in (num_ok h1)).1
    exact ⟨trivial, by simp; omega⟩
/-- A reader that is there or not. -/
theorem reads_opt {α : Type} (c : Prop) [Decidable c] {p : Par α} {put : α → List Nat} {ok : α → Prop} (z : α) (hp : Reads p put ok) : Reads (if c then p else pur z) (fun a => if c then put a else []) (fun a => if c then ok a else a = z) := by
  by_cases h : c
  · simp only [if_pos h]; exact hp
  · simp only [if_neg h]; exact reads_pur z
/-- A segment of data, as it is read. -/
structure RDat where
  form : Nat
  off : List Ins.Ins
  bs : List Nat
def bytesB (b : List Nat) : List Nat := putU b.length ++ b
def bytesOk (b : List Nat) : Prop := b.length < 4294967296 ∧ ∀ y ∈ b, y < 256
def rdatB (d : RDat) : List Nat := putU d.form ++ ((if d.form = 2 then [0] else []) ++ ((if d.form ≠ 1 then Ins.allBytes d.off else []) ++ bytesB d.bs))
def rdatOk (d : RDat) : Prop := d.form ≤ 2 ∧ (if d.form ≠ 1 then Ins.closedI d.off else d.off = []) ∧ bytesOk d.bs
def rdatP : Par RDat := bnd num fun f => if 2 < f then err 2 else bnd (if f = 2 then zeroP else pur ()) fun _ => bnd (if f ≠ 1 then bodyP else pur []) fun o => bnd bytes fun b => pur ⟨f, o, b⟩
theorem pre_rdat : Pre rdatP := pre_bnd pre_num fun _ => pre_ite (pre_err _) (pre_bnd (pre_ite pre_zero (pre_pur _)) fun _ => pre_bnd (pre_ite pre_body (pre_pur _)) fun _ => pre_bnd pre_bytes fun _ => pre_pur _)
theorem reads_rdat : Reads rdatP rdatB rdatOk := by
  refine (reads_bndD (okB := fun f d => d.form = f ∧ d.form ≤ 2 ∧ (if d.form ≠ 1 then Ins.closedI d.off else d.off = []) ∧ bytesOk d.bs) (putB := fun d : RDat => (if d.form = 2 then [0] else []) ++ ((if d.form ≠ 1 then Ins.allBytes d.off else []) ++ bytesB d.bs)) (fun d => d.form) reads_num (fun f _ => ?_) (fun f d h => h.1)).to (fun d => ⟨fun h => ⟨by have := h.1; omega, rfl, h⟩, fun h => h.2.2⟩) (fun _ _ => rfl)
  by_cases h2 : 2 < f
  · simp only [if_pos h2]
    exact (reads_err 2 (fun _ : RDat => [])).none (fun _ h => h) (fun d h => by have := h.1; have := h.2.1; omega)
  · simp only [if_neg h2]
    refine (reads_bndD (okB := fun (_ : Unit) d => d.form = f ∧ (if f ≠ 1 then Ins.closedI d.off else d.off = []) ∧ bytesOk d.bs) (putB := fun d : RDat => (if f ≠ 1 then Ins.allBytes d.off else []) ++ bytesB d.bs) (fun _ => ()) (reads_opt (f = 2) () reads_zero) (fun _ _ => (reads_bndD (okB := fun o d => d.form = f ∧ d.off = o ∧ bytesOk d.bs) (putB := fun d : RDat => bytesB d.bs) (fun d => d.off) (reads_opt (f ≠ 1) [] reads_body) (fun o _ => (reads_bndD (okB := fun b d => d = (⟨f, o, b⟩ : RDat)) (putB := fun _ => []) (fun d => d.bs) reads_bytes (fun b _ => reads_pur _) (fun b d h => by rw [h])).to (fun d => ⟨fun h => ?_, fun h => ?_⟩) (fun d _ => by simp [bytesB])) (fun o d h => h.2.1)).to (fun d => ⟨fun h => ⟨h.2.1, h.1, rfl, h.2.2⟩, fun h => ⟨h.2.1, h.1, h.2.2.2⟩⟩) (fun d _ => rfl)) (fun _ _ _ => rfl)).to (fun d => ⟨fun h => ?_, fun h => ?_⟩) (fun d h => ?_)
    · obtain ⟨rfl, rfl, h3⟩ := h
      exact ⟨h3, rfl⟩
    · obtain ⟨h1, h3⟩ := h
      rw [h3]
      exact ⟨rfl, rfl, h1⟩
    · obtain ⟨rfl, h3, h4, h5⟩ := h
      exact ⟨by split <;> trivial, rfl, h4, h5⟩
    · obtain ⟨_, rfl, h4, h5⟩ := h
      exact ⟨rfl, by omega, h4, h5⟩
    · obtain ⟨_, rfl, _, _⟩ := h
      rfl
/-- A segment of data. -/
structure Dat where
  mode : Nat
  off : List Ins.Ins
  bs : List Nat
def datOf (r : RDat) : Dat := ⟨if r.form = 1 then 1 else 0, r.off, r.bs⟩
def rawDat (d : Dat) : RDat := ⟨d.mode, d.off, d.bs⟩
def dataP : Par Dat := bnd rdatP fun r => pur (datOf r)
def datB (d : Dat) : List Nat := rdatB (rawDat d)
def datOk (d : Dat) : Prop := d.mode ≤ 1 ∧ (if d.mode ≠ 1 then Ins.closedI d.off else d.off = []) ∧ bytesOk d.bs
theorem pre_data : Pre dataP := pre_map datOf pre_rdat
theorem reads_data : Reads dataP datB datOk := by
  refine reads_map datOf rawDat datOk reads_rdat (fun d h => ⟨⟨by have := h.1; show d.mode ≤ 2; omega, h.2⟩, ?_⟩) (fun r h => ?_)
  · cases d with
    | mk m o b =>
      have := h.1
      simp only at this
      unfold datOf rawDat
      simp only [Dat.mk.injEq, and_true]
      split <;> omega
  · obtain ⟨h1, h2, h3⟩ := h
    unfold datOk datOf rawDat rdatB
    simp only
    by_cases hf : r.form = 1
    · rw [if_pos hf]
      rw [if_neg (by omega)] at h2
      refine ⟨⟨by omega, ?_, h3⟩, ?_⟩
      · simpa using h2
      · rw [hf]; exact Nat.le_refl _
    · rw [if_neg hf]
      rw [if_pos hf] at h2
      refine ⟨⟨by omega, ?_, h3⟩, ?_⟩
      · simpa using h2
      · have e1 : (putU r.form).length = 1 := by rw [putU_small (by omega)]; rfl
        have e0 : (putU 0).length = 1 := by rw [putU_0]; rfl
        simp only [List.length_append, e1, e0]
        simp [hf]
/-- A segment's function by its number, or by an expression. -/
def uP : Par Int := bnd num fun n => pur (n : Int)
def uB (k : Int) : List Nat := putU k.toNat
def uOk (k : Int) : Prop := 0 ≤ k ∧ k ≤ 4294967295
theorem pre_u : Pre uP := pre_map (fun n : Nat => (n : Int)) pre_num
theorem reads_u : Reads uP uB uOk := by
  refine reads_map (fun n : Nat => (n : Int)) (fun k : Int => k.toNat) uOk reads_num (fun k h => ?_) (fun n h => ?_)
  · unfold uOk at h; omega
  · unfold uOk; exact ⟨by omega, by simp⟩
def finP (k : Int) : Par Int := bnd one fun y => if y ≠ 11 then err 2 else pur k
def eP : Par Int := bnd one fun x => if x = 210 then bnd num fun n => finP (n : Int) else if x = 208 then bnd entries fun _ => finP (-1) else err 3
def eB (k : Int) : List Nat := if k = -1 then [208, 112, 11] else 210 :: (putU k.toNat ++ [11])
def eOk (k : Int) : Prop := k = -1 ∨ uOk k
theorem pre_fin (k : Int) : Pre (finP k) := pre_bnd pre_one fun _ => pre_ite (pre_err _) (pre_pur _)
theorem pre_e : Pre eP := pre_bnd pre_one fun _ => pre_ite (pre_bnd pre_num fun _ => pre_fin _) (pre_ite (pre_bnd pre_entries fun _ => pre_fin _) (pre_err _))
theorem fin_mk (k : Int) (more : List Nat) : finP k ([11] ++ more) = .ok (k, 1) := by
  have h1 : one ([11] ++ more) = .ok (11, 1) := rfl
  exact bnd_mk (f := fun y => if y ≠ 11 then err 2 else pur k) (b := k) (s' := 0) h1 (by simp [pur])
theorem fin_ok {k a : Int} {l : List Nat} {s : Nat} (h : finP k l = .ok (a, s)) : a = k ∧ s = 1 := by
  obtain ⟨y, s1, s2, h1, h2, rfl⟩ := bnd_ok h
  have hs : s1 = 1 := by
    cases l with
    | nil => simp [one] at h1
    | cons x l => simp only [one, Except.ok.injEq, Prod.mk.injEq] at h1; omega
  by_cases hy : y ≠ 11
  · simp [if_pos hy, err] at h2
  · simp only [if_neg hy, pur, Except.ok.injEq, Prod.mk.injEq] at h2
    exact ⟨h2.1.symm, by omega⟩
theorem reads_e : Reads eP eB eOk := by
  refine ⟨fun k more h => ?_, fun l k s hl h => ?_, fun k h y hy => ?_⟩
  · unfold eB
    by_cases hk : k = -1
    · subst hk
      rw [if_pos rfl]
      have h1 : one ([208, 112, 11] ++ more) = .ok (208, 1) := rfl
      have h2 := reads_entries.back () ([11] ++ more) trivial
      exact bnd_mk (b := (-1 : Int)) (s' := 1 + 1) h1 (by
        simp only [if_neg (show ¬ (208 : Nat) = 210 by omega), if_true]
        exact bnd_mk h2 (fin_mk (-1) more))
    · have hu : uOk k := h.resolve_left hk
      rw [if_neg hk]
      unfold uOk at hu
      have h1 : one (210 :: (putU k.toNat ++ [11]) ++ more) = .ok (210, 1) := rfl
      have h2 := reads_num.back k.toNat ([11] ++ more) (by omega)
      have e : ((k.toNat : Nat) : Int) = k := by omega
      have h3 := bnd_mk (f := fun n : Nat => finP (n : Int)) (b := k) (s' := 1) h2 (by rw [List.drop_left, e]; exact fin_mk k more)
      have h4 := bnd_mk (f := fun x => if x = 210 then bnd num fun n => finP (n : Int) else if x = 208 then bnd entries fun _ => finP (-1) else err 3) (b := k) (s' := (putU k.toNat).length + 1) h1 (by
        simp only [if_true]
        have : List.drop 1 (210 :: (putU k.toNat ++ [11]) ++ more) = putU k.toNat ++ ([11] ++ more) := by simp
        rw [this]
        exact h3)
      have e2 : (210 :: (putU k.toNat ++ [11])).length = 1 + ((putU k.toNat).length + 1) := by simp; omega
      rw [e2]
      exact h4
  · obtain ⟨x, s1, s2, h1, h2, rfl⟩ := bnd_ok h
    have hs : s1 = 1 := by
      cases l with
      | nil => simp [one] at h1
      | cons z l => simp only [one, Except.ok.injEq, Prod.mk.injEq] at h1; omega
    by_cases hx : x = 210
    · simp only [if_pos hx] at h2
      obtain ⟨n, s3, s4, h3, h4, rfl⟩ := bnd_ok h2
      obtain ⟨rfl, rfl⟩ := fin_ok h4
      obtain ⟨k1, k2⟩ := uRes_small (num_ok h3)
      refine ⟨.inr ⟨by omega, by omega⟩, ?_⟩
      unfold eB
      rw [if_neg (by omega)]
      simp
      omega
    · simp only [if_neg hx] at h2
      by_cases hx2 : x = 208
      · simp only [if_pos hx2] at h2
        obtain ⟨_, s3, s4, h3, h4, rfl⟩ := bnd_ok h2
        obtain ⟨rfl, rfl⟩ := fin_ok h4
        have := (reads_entries.taken _ _ _ (fun y hy => hl y (List.mem_of_mem_drop hy)) h3).2
        simp at this
        exact ⟨.inl rfl, by simp [eB]; omega⟩
      · simp [if_neg hx2, err] at h2
  · unfold eB at hy
    split at hy
    · simp at hy; omega
    · rcases List.mem_cons.1 hy with rfl | hy
      · omega
      · rcases List.mem_append.1 hy with hy | hy
        · exact putUf_byte 9 _ y hy
        · simp at hy; omega
end Go.Proofs.Ytlbbnnljclndkaa.Mod
