/-
  ModElem: Readers in plain words: a segment of the table, in each of its eight forms, put in one of six. No condition; nothing of the program.
-/
import Derived.Test.YtlbbnnljclndkaaQModSeg
namespace Go.Proofs.Ytlbbnnljclndkaa.Mod
open Go.RowKit Leb

/-- As it is read. -/
structure REl where
  form : Nat
  off : List Ins.Ins
  fs : List Int
def kindB (f : Nat) : List Nat := if 4 < f then [112] else if 0 < f ∧ f < 4 then [0] else []
def kindP (f : Nat) : Par Unit := if 4 < f then entries else if 0 < f ∧ f < 4 then bnd (among 1) (fun _ => pur ()) else pur ()
def itemP (f : Nat) : Par Int := if f < 4 then uP else eP
def itemB (f : Nat) (k : Int) : List Nat := if f < 4 then uB k else eB k
def itemOk (f : Nat) (k : Int) : Prop := if f < 4 then uOk k else eOk k
theorem pre_kind (f : Nat) : Pre (kindP f) := pre_ite pre_entries (pre_ite (pre_bnd (pre_among 1) fun _ => pre_pur _) (pre_pur _))
theorem pre_item (f : Nat) : Pre (itemP f) := pre_ite pre_u pre_e
theorem reads_item (f : Nat) : Reads (itemP f) (itemB f) (itemOk f) := by
  unfold itemP
  by_cases h : f < 4
  · rw [if_pos h]
    exact reads_u.to (fun k => by unfold itemOk; rw [if_pos h]) (fun k _ => by unfold itemB; rw [if_pos h])
  · rw [if_neg h]
    exact reads_e.to (fun k => by unfold itemOk; rw [if_neg h]) (fun k _ => by unfold itemB; rw [if_neg h])
theorem reads_kind (f : Nat) : Reads (kindP f) (fun _ => kindB f) (fun _ => True) := by
  unfold kindP kindB
  by_cases h : 4 < f
  · simp only [if_pos h]; exact reads_entries
  · simp only [if_neg h]
    by_cases h2 : 0 < f ∧ f < 4
    · simp only [if_pos h2]
      exact (reads_bndD (okB := fun (x : Nat) (_ : Unit) => x = 0) (putB := fun _ => []) (fun _ => 0) ((reads_among 1 (by omega)).to (ok' := fun x => x = 0) (fun x => by omega) (fun _ _ => rfl)) (fun x hx => (reads_pur ()).to (fun u => ⟨fun _ => rfl, fun _ => hx⟩) (fun _ _ => rfl)) (fun x u h => h.symm)).to (fun u => ⟨fun _ => ⟨rfl, rfl⟩, fun _ => trivial⟩) (fun _ _ => by simp)
    · simp only [if_neg h2]
      exact (reads_pur ()).to (fun u => ⟨fun _ => rfl, fun _ => trivial⟩) (fun _ _ => rfl)
def relB (x : REl) : List Nat := putU x.form ++ ((if x.form % 4 = 2 then [0] else []) ++ ((if x.form % 2 = 0 then Ins.allBytes x.off else []) ++ (kindB x.form ++ (putU x.fs.length ++ x.fs.flatMap (itemB x.form)))))
def relOk (x : REl) : Prop := x.form ≤ 7 ∧ (if x.form % 2 = 0 then Ins.closedI x.off else x.off = []) ∧ x.fs.length ≤ 64 ∧ ∀ k ∈ x.fs, itemOk x.form k
def relP : Par REl := bnd num fun f => if 7 < f then err 2 else bnd (if f % 4 = 2 then zeroP else pur ()) fun _ => bnd (if f % 2 = 0 then bodyP else pur []) fun o => bnd (kindP f) fun _ => bnd (many (itemP f)) fun xs => pur ⟨f, o, xs⟩
theorem pre_rel : Pre relP := pre_bnd pre_num fun _ => pre_ite (pre_err _) (pre_bnd (pre_ite pre_zero (pre_pur _)) fun _ => pre_bnd (pre_ite pre_body (pre_pur _)) fun _ => pre_bnd (pre_kind _) fun _ => pre_bnd (pre_many (pre_item _)) fun _ => pre_pur _)
theorem reads_rel : Reads relP relB relOk := by
  refine (reads_bndD (okB := fun f x => x.form = f ∧ relOk x) (putB := fun x : REl => (if x.form % 4 = 2 then [0] else []) ++ ((if x.form % 2 = 0 then Ins.allBytes x.off else []) ++ (kindB x.form ++ (putU x.fs.length ++ x.fs.flatMap (itemB x.form))))) (fun x => x.form) reads_num (fun f _ => ?_) (fun f x h => h.1)).to (fun x => ⟨fun h => ⟨by have := h.1; omega, rfl, h⟩, fun h => h.2.2⟩) (fun _ _ => rfl)
  by_cases h7 : 7 < f
  · simp only [if_pos h7]
    exact (reads_err 2 (fun _ : REl => [])).none (fun _ h => h) (fun x h => by have := h.1; have := h.2.1; omega)
  · simp only [if_neg h7]
    refine (reads_bndD (okB := fun (_ : Unit) x => x.form = f ∧ (if f % 2 = 0 then Ins.closedI x.off else x.off = []) ∧ x.fs.length ≤ 64 ∧ ∀ k ∈ x.fs, itemOk f k) (putB := fun x : REl => (if f % 2 = 0 then Ins.allBytes x.off else []) ++ (kindB f ++ (putU x.fs.length ++ x.fs.flatMap (itemB f)))) (fun _ => ()) (reads_opt (f % 4 = 2) () reads_zero) (fun _ _ => (reads_bndD (okB := fun o x => x.form = f ∧ x.off = o ∧ x.fs.length ≤ 64 ∧ ∀ k ∈ x.fs, itemOk f k) (putB := fun x : REl => kindB f ++ (putU x.fs.length ++ x.fs.flatMap (itemB f))) (fun x => x.off) (reads_opt (f % 2 = 0) [] reads_body) (fun o _ => (reads_bndD (okB := fun (_ : Unit) x => x.form = f ∧ x.off = o ∧ x.fs.length ≤ 64 ∧ ∀ k ∈ x.fs, itemOk f k) (putB := fun x : REl => putU x.fs.length ++ x.fs.flatMap (itemB f)) (fun _ => ()) (reads_kind f) (fun _ _ => (reads_bndD (okB := fun xs x => x = (⟨f, o, xs⟩ : REl)) (putB := fun _ => []) (fun x => x.fs) (reads_many (reads_item f)) (fun xs _ => reads_pur _) (fun xs x h => by rw [h])).to (fun x => ⟨fun h => ?_, fun h => ?_⟩) (fun x _ => by simp)) (fun _ _ _ => rfl)).to (fun x => ⟨fun h => ⟨trivial, h⟩, fun h => h.2⟩) (fun _ _ => rfl)) (fun o x h => h.2.1)).to (fun x => ⟨fun h => ⟨h.2.1, h.1, rfl, h.2.2⟩, fun h => ⟨h.2.1, h.1, h.2.2.2⟩⟩) (fun _ _ => rfl)) (fun _ _ _ => rfl)).to (fun x => ⟨fun h => ?_, fun h => ?_⟩) (fun x h => ?_)
    · obtain ⟨rfl, rfl, h3⟩ := h
      exact ⟨h3, rfl⟩
    · obtain ⟨h1, h3⟩ := h
      rw [h3]
      exact ⟨rfl, rfl, h1⟩
    · obtain ⟨rfl, h3, h4, h5⟩ := h
      exact ⟨by split <;> trivial, rfl, h4, h5⟩
    · obtain ⟨_, rfl, h4, h5⟩ := h
      exact ⟨rfl, by omega, h4, h5⟩
    · obtain ⟨_, rfl, _⟩ := h
      rfl
/-- A segment of the table. -/
structure El where
  mode : Nat
  off : List Ins.Ins
  fs : List Int
def elOf (r : REl) : El := ⟨if r.form % 4 = 1 then 1 else if r.form % 4 = 3 then 2 else 0, r.off, r.fs⟩
def formOf (x : El) : Nat := (if x.mode = 0 then 0 else if x.mode = 1 then 1 else 3) + (if -1 ∈ x.fs then 4 else 0)
def rawEl (x : El) : REl := ⟨formOf x, x.off, x.fs⟩
def elemP : Par El := bnd relP fun r => pur (elOf r)
def elB (x : El) : List Nat := relB (rawEl x)
def elOk (x : El) : Prop := x.mode ≤ 2 ∧ (if x.mode = 0 then Ins.closedI x.off else x.off = []) ∧ x.fs.length ≤ 64 ∧ ∀ k ∈ x.fs, eOk k
theorem pre_elem : Pre elemP := pre_map elOf pre_rel
theorem form_le (x : El) : formOf x ≤ 7 := by
  unfold formOf
  repeat' split
  all_goals omega
theorem form_mode (x : El) (h : x.mode ≤ 2) : (if formOf x % 4 = 1 then 1 else if formOf x % 4 = 3 then 2 else 0) = x.mode := by
  unfold formOf
  repeat' split
  all_goals omega
theorem form_even (x : El) : formOf x % 2 = 0 ↔ x.mode = 0 := by
  unfold formOf
  repeat' split
  all_goals omega
theorem form_low (x : El) : formOf x < 4 ↔ -1 ∉ x.fs := by
  unfold formOf
  by_cases h : -1 ∈ x.fs
  · simp only [if_pos h]; constructor
    · intro h2; omega
    · intro h2; exact absurd h h2
  · simp only [if_neg h]; constructor
    · intro _; exact h
    · intro _; repeat' split
      all_goals omega
theorem uB_le_eB (k : Int) (h : uOk k) : (uB k).length ≤ (eB k).length := by
  unfold uOk at h
  unfold uB eB
  rw [if_neg (by omega)]
  simp
  omega
theorem flat_le {α : Type} (f g : α → List Nat) (l : List α) (h : ∀ a ∈ l, (f a).length ≤ (g a).length) : (l.flatMap f).length ≤ (l.flatMap g).length := by
  induction l with
  | nil => simp
  | cons a l ih =>
    have h1 := h a (by simp)
    have h2 := ih (fun b hb => h b (by simp [hb]))
    simp only [List.flatMap_cons, List.length_append]
    omega
theorem reads_elem : Reads elemP elB elOk := by
  refine reads_map elOf rawEl elOk reads_rel (fun x h => ?_) (fun r h => ?_)
  · obtain ⟨h1, h2, h3, h4⟩ := h
    refine ⟨⟨form_le x, ?_, h3, fun k hk => ?_⟩, ?_⟩
    · show if formOf x % 2 = 0 then Ins.closedI x.off else x.off = []
      by_cases h0 : x.mode = 0
      · rw [if_pos h0] at h2; rw [if_pos ((form_even x).2 h0)]; exact h2
      · rw [if_neg h0] at h2; rw [if_neg (fun e => h0 ((form_even x).1 e))]; exact h2
    · show itemOk (formOf x) k
      unfold itemOk
      by_cases hl : formOf x < 4
      · rw [if_pos hl]
        rcases h4 k hk with rfl | h5
        · exact absurd hk ((form_low x).1 hl)
        · exact h5
      · rw [if_neg hl]; exact h4 k hk
    · cases x with
      | mk m o fs =>
        unfold elOf rawEl
        simp only [El.mk.injEq, and_true]
        exact form_mode ⟨m, o, fs⟩ h1
  · obtain ⟨h1, h2, h3, h4⟩ := h
    have heo : ∀ k ∈ r.fs, eOk k := fun k hk => by
      have := h4 k hk
      unfold itemOk at this
      split at this
      · exact .inr this
      · exact this
    have hmode : (elOf r).mode = 0 ↔ r.form % 2 = 0 := by
      unfold elOf
      simp only
      repeat' split
      all_goals omega
    have hev : formOf (elOf r) % 2 = 0 ↔ r.form % 2 = 0 := (form_even _).trans hmode
    refine ⟨⟨?_, ?_, h3, heo⟩, ?_⟩
    · unfold elOf; simp only; repeat' split
      all_goals omega
    · by_cases h0 : r.form % 2 = 0
      · rw [if_pos h0] at h2; rw [if_pos (hmode.2 h0)]; exact h2
      · rw [if_neg h0] at h2; rw [if_neg (fun e => h0 (hmode.1 e))]; exact h2
    · have hfl : formOf (elOf r) ≤ 7 := form_le _
      have e1 : (putU (formOf (elOf r))).length = 1 := by rw [putU_small (by omega)]; rfl
      have e2 : (putU r.form).length = 1 := by rw [putU_small (by omega)]; rfl
      have hoff : (elOf r).off = r.off := rfl
      have hfs : (elOf r).fs = r.fs := rfl
      have hitems : (r.fs.flatMap (itemB (formOf (elOf r)))).length ≤ (r.fs.flatMap (itemB r.form)).length := by
        refine flat_le _ _ _ (fun k hk => ?_)
        have hk4 := h4 k hk
        unfold itemOk at hk4
        unfold itemB
        by_cases ha : formOf (elOf r) < 4
        · rw [if_pos ha]
          by_cases hb : r.form < 4
          · rw [if_pos hb]; exact Nat.le_refl _
          · rw [if_neg hb] at hk4 ⊢
            rcases hk4 with rfl | hk5
            · exact absurd hk ((form_low (elOf r)).1 ha)
            · exact uB_le_eB k hk5
        · rw [if_neg ha]
          by_cases hb : r.form < 4
          · exfalso
            apply ha
            rw [form_low]
            intro hm
            have := h4 (-1) hm
            unfold itemOk at this
            rw [if_pos hb] at this
            unfold uOk at this
            omega
          · rw [if_neg hb]; exact Nat.le_refl _
      have hk : (kindB (formOf (elOf r))).length + (if formOf (elOf r) % 4 = 2 then [0] else ([] : List Nat)).length ≤ (kindB r.form).length + (if r.form % 4 = 2 then [0] else ([] : List Nat)).length := by
        have hf2 : formOf (elOf r) % 4 ≠ 2 := by
          unfold formOf
          repeat' split
          all_goals omega
        rw [if_neg hf2]
        have hodd : r.form % 2 = 1 → (kindB r.form).length = 1 := fun h => by
          unfold kindB
          repeat' split
          all_goals first
            | rfl
            | omega
        have hle : (kindB (formOf (elOf r))).length ≤ 1 := by
          unfold kindB
          repeat' split
          all_goals simp
        by_cases h0 : r.form % 2 = 0
        · have : kindB (formOf (elOf r)) = [] := by
            have hz := hev.2 h0
            have : formOf (elOf r) = 0 ∨ formOf (elOf r) = 4 := by omega
            unfold kindB
            rcases this with e | e <;> rw [e] <;> simp
          rw [this]
          simp
        · rw [hodd (by omega)]
          simp only [List.length_nil]
          omega
      show (relB (rawEl (elOf r))).length ≤ (relB r).length
      unfold relB rawEl
      simp only [hoff, hfs, List.length_append, e1, e2]
      by_cases h0 : r.form % 2 = 0
      · rw [if_pos h0, if_pos (hev.2 h0)]
        omega
      · rw [if_neg h0, if_neg (fun e => h0 (hev.1 e))]
        omega
end Go.Proofs.Ytlbbnnljclndkaa.Mod
