/-
  ModThing: Readers in plain words: an import, a global, an export, a segment of data. No condition; nothing of the program.
-/
import Derived.Test.YtlbbnnljclndkaaQModBase
namespace Go.Proofs.Ytlbbnnljclndkaa.Mod
open Go.RowKit Leb

/-- One behind the other, what may follow hanging on what was read first. -/
theorem reads_bndD {α β : Type} {p : Par α} {f : α → Par β} {putA : α → List Nat} {putB : β → List Nat} {okA : α → Prop} {okB : α → β → Prop} (prj : β → α) (hp : Reads p putA okA) (hf : ∀ a, okA a → Reads (f a) putB (okB a)) (hprj : ∀ a b, okB a b → prj b = a) :
    Reads (bnd p f) (fun b => putA (prj b) ++ putB b) (fun b => okA (prj b) ∧ okB (prj b) b) := by
  refine ⟨fun b more h => ?_, fun l b n hl h => ?_, fun b h y hy => ?_⟩
  · have h1 := hp.back (prj b) (putB b ++ more) h.1
    have h2 := (hf (prj b) h.1).back b more h.2
    rw [List.append_assoc, List.length_append]
    exact bnd_mk h1 (by rw [List.drop_left]; exact h2)
  · obtain ⟨a, s, s', h1, h2, rfl⟩ := bnd_ok h
    obtain ⟨k1, k2⟩ := hp.taken l a s hl h1
    obtain ⟨k3, k5⟩ := (hf a k1).taken _ b s' (fun y hy => hl y (List.mem_of_mem_drop hy)) h2
    have k4 := hprj a b k3
    rw [k4]
    exact ⟨⟨k1, k3⟩, by rw [List.length_append]; omega⟩
  · rcases List.mem_append.1 hy with hy | hy
    · exact hp.byte _ h.1 y hy
    · exact (hf (prj b) h.1).byte b h.2 y hy
abbrev Lim : Type := Nat × Bool × Nat
def noLim : Lim := (0, false, 0)
def limOk (x : Lim) : Prop := x.1 < 4294967296 ∧ x.2.2 < 4294967296 ∧ (x.2.1 = true ∨ x.2.2 = 0)
def limB (x : Lim) : List Nat := Typ.limBytes x.1 x.2.1 x.2.2
def nameB (s : ByteArray) : List Nat := putU s.size ++ Utf.bl s
def flagB (m : Bool) : Nat := if m then 1 else 0
/-- An import. -/
structure Imp where
  md : ByteArray
  nm : ByteArray
  kind : Nat
  ty : Nat
  lim : Lim
  mu : Bool
def impTail (b : Imp) : List Nat := if b.kind = 0 then putU b.ty else if b.kind = 1 then 112 :: limB b.lim else if b.kind = 2 then limB b.lim else [b.ty, flagB b.mu]
def tailOk (b : Imp) : Prop :=
  if b.kind = 0 then b.ty < 4294967296 ∧ b.lim = noLim ∧ b.mu = false
  else if b.kind = 1 ∨ b.kind = 2 then b.ty = 0 ∧ limOk b.lim ∧ b.mu = false
  else (b.ty = 127 ∨ b.ty = 126) ∧ b.lim = noLim
def impB (b : Imp) : List Nat := nameB b.md ++ (nameB b.nm ++ ([b.kind] ++ impTail b))
def impOk (b : Imp) : Prop := nameOk b.md ∧ nameOk b.nm ∧ b.kind < 4 ∧ tailOk b
def tailP (md nm : ByteArray) (k : Nat) : Par Imp :=
  if k = 0 then bnd num fun t => pur ⟨md, nm, k, t, noLim, false⟩
  else if k = 1 then bnd entries fun _ => bnd limP fun x => pur ⟨md, nm, k, 0, x, false⟩
  else if k = 2 then bnd limP fun x => pur ⟨md, nm, k, 0, x, false⟩
  else bnd valueP fun t => bnd (among 2) fun m => pur ⟨md, nm, k, t, noLim, decide (m = 1)⟩
def importP : Par Imp := bnd nameP fun md => bnd nameP fun nm => bnd (among 4) fun k => tailP md nm k
theorem pre_tail (md nm : ByteArray) (k : Nat) : Pre (tailP md nm k) :=
  pre_ite (pre_bnd pre_num fun _ => pre_pur _) (pre_ite (pre_bnd pre_entries fun _ => pre_bnd pre_lim fun _ => pre_pur _) (pre_ite (pre_bnd pre_lim fun _ => pre_pur _) (pre_bnd pre_value fun _ => pre_bnd (pre_among 2) fun _ => pre_pur _)))
theorem pre_import : Pre importP := pre_bnd pre_name fun _ => pre_bnd pre_name fun _ => pre_bnd (pre_among 4) fun _ => pre_tail _ _ _
theorem reads_tail (md nm : ByteArray) (k : Nat) (hk : k < 4) : Reads (tailP md nm k) impTail (fun b => b.md = md ∧ b.nm = nm ∧ b.kind = k ∧ tailOk b) := by
  unfold tailP
  by_cases h0 : k = 0
  · subst h0
    rw [if_pos rfl]
    refine (reads_bndD (okB := fun t b => b = (⟨md, nm, 0, t, noLim, false⟩ : Imp)) (putB := fun _ => []) (fun b => b.ty) reads_num (fun t _ => reads_pur _) (fun t b h => by rw [h])).to (fun b => ⟨fun h => ?_, fun h => ?_⟩) (fun b h => ?_)
    · obtain ⟨rfl, rfl, h3, h4⟩ := h
      unfold tailOk at h4
      rw [if_pos h3] at h4
      obtain ⟨a1, a2, a3⟩ := h4
      refine ⟨a1, ?_⟩
      cases b
      simp_all
    · obtain ⟨h1, h2⟩ := h
      rw [h2]
      exact ⟨rfl, rfl, rfl, by unfold tailOk; rw [if_pos rfl]; exact ⟨h1, rfl, rfl⟩⟩
    · have : b.kind = 0 := by rw [h.2]
      unfold impTail
      rw [if_pos this]
      simp
  · rw [if_neg h0]
    by_cases h1 : k = 1
    · subst h1
      rw [if_pos rfl]
      refine (reads_bndD (okB := fun (_ : Unit) b => limOk b.lim ∧ b = (⟨md, nm, 1, 0, b.lim, false⟩ : Imp)) (putB := fun b : Imp => limB b.lim) (fun _ => ()) reads_entries (fun _ _ => (reads_bndD (okB := fun x b => b = (⟨md, nm, 1, 0, x, false⟩ : Imp)) (putB := fun _ => []) (fun b => b.lim) reads_lim (fun x _ => reads_pur _) (fun x b h => by rw [h])).to (fun b => Iff.rfl) (fun b _ => by simp [limB])) (fun _ _ _ => rfl)).to (fun b => ⟨fun h => ?_, fun h => ?_⟩) (fun b h => ?_)
      · obtain ⟨rfl, rfl, h3, h4⟩ := h
        unfold tailOk at h4
        rw [if_neg (by omega), if_pos (.inl h3)] at h4
        obtain ⟨a1, a2, a3⟩ := h4
        refine ⟨trivial, a2, ?_⟩
        cases b
        simp_all
      · obtain ⟨_, h2, h3⟩ := h
        rw [h3]
        exact ⟨rfl, rfl, rfl, by unfold tailOk; rw [if_neg (by simp), if_pos (.inl rfl)]; exact ⟨rfl, h2, rfl⟩⟩
      · have : b.kind = 1 := by rw [h.2.2]
        unfold impTail
        rw [if_neg (by omega), if_pos this]
        rfl
    · rw [if_neg h1]
      by_cases h2 : k = 2
      · subst h2
        rw [if_pos rfl]
        refine (reads_bndD (okB := fun x b => b = (⟨md, nm, 2, 0, x, false⟩ : Imp)) (putB := fun _ => []) (fun b => b.lim) reads_lim (fun x _ => reads_pur _) (fun x b h => by rw [h])).to (fun b => ⟨fun h => ?_, fun h => ?_⟩) (fun b h => ?_)
        · obtain ⟨rfl, rfl, h3, h4⟩ := h
          unfold tailOk at h4
          rw [if_neg (by omega), if_pos (.inr h3)] at h4
          obtain ⟨a1, a2, a3⟩ := h4
          refine ⟨a2, ?_⟩
          cases b
          simp_all
        · obtain ⟨h2, h3⟩ := h
          rw [h3]
          exact ⟨rfl, rfl, rfl, by unfold tailOk; rw [if_neg (by simp), if_pos (.inr rfl)]; exact ⟨rfl, h2, rfl⟩⟩
        · have : b.kind = 2 := by rw [h.2]
          unfold impTail
          rw [if_neg (by omega), if_neg (by omega), if_pos this]
          simp [limB]
      · rw [if_neg h2]
        obtain rfl : k = 3 := by omega
        refine (reads_bndD (okB := fun t b => b = (⟨md, nm, 3, t, noLim, b.mu⟩ : Imp)) (putB := fun b : Imp => [flagB b.mu]) (fun b => b.ty) reads_value (fun t _ => (reads_bndD (okB := fun m b => b = (⟨md, nm, 3, t, noLim, decide (m = 1)⟩ : Imp) ∧ m < 2) (putB := fun _ => []) (fun b => flagB b.mu) (reads_among 2 (by omega)) (fun m hm => (reads_pur _).to (fun b => ⟨fun h => h.1, fun h => ⟨h, hm⟩⟩) (fun _ _ => rfl)) (fun m b h => by
          rw [h.1]
          unfold flagB
          have := h.2
          by_cases h1 : m = 1
          · simp [h1]
          · simp [h1]; omega)).to (fun b => ⟨fun h => ?_, fun h => ?_⟩) (fun b _ => by simp)) (fun t b h => by rw [h])).to (fun b => ⟨fun h => ?_, fun h => ?_⟩) (fun b h => ?_)
        · refine ⟨by unfold flagB; split <;> omega, ?_, by unfold flagB; split <;> omega⟩
          rw [h]
          cases b with
          | mk a1 a2 a3 a4 a5 a6 => cases a6 <;> simp [flagB]
        · rw [h.2.1]
        · obtain ⟨rfl, rfl, h3, h4⟩ := h
          unfold tailOk at h4
          rw [if_neg (by omega), if_neg (by omega)] at h4
          refine ⟨h4.1, ?_⟩
          cases b
          simp_all
        · obtain ⟨h2, h3⟩ := h
          rw [h3]
          exact ⟨rfl, rfl, rfl, by unfold tailOk; rw [if_neg (by simp), if_neg (by simp)]; exact ⟨h2, rfl⟩⟩
        · have : b.kind = 3 := by rw [h.2]
          unfold impTail
          rw [if_neg (by omega), if_neg (by omega), if_neg (by omega)]
          rfl
theorem reads_import : Reads importP impB impOk := by
  refine (reads_bndD (okB := fun md b => nameOk b.nm ∧ b.kind < 4 ∧ b.md = md ∧ tailOk b) (putB := fun b : Imp => nameB b.nm ++ ([b.kind] ++ impTail b)) (fun b => b.md) reads_name (fun md _ => (reads_bndD (okB := fun nm b => b.kind < 4 ∧ b.md = md ∧ b.nm = nm ∧ tailOk b) (putB := fun b : Imp => [b.kind] ++ impTail b) (fun b => b.nm) reads_name (fun nm _ => (reads_bndD (okB := fun k b => b.md = md ∧ b.nm = nm ∧ b.kind = k ∧ tailOk b) (putB := impTail) (fun b => b.kind) (reads_among 4 (by omega)) (fun k hk => reads_tail md nm k hk) (fun k b h => h.2.2.1)).to (fun b => ⟨fun h => ⟨h.1, h.2.1, h.2.2.1, rfl, h.2.2.2⟩, fun h => ⟨h.1, h.2.1, h.2.2.1, h.2.2.2.2⟩⟩) (fun b _ => rfl)) (fun nm b h => h.2.2.1)).to (fun b => ⟨fun h => ⟨h.1, h.2.1, h.2.2.1, rfl, h.2.2.2⟩, fun h => ⟨h.1, h.2.1, h.2.2.1, h.2.2.2.2⟩⟩) (fun b _ => rfl)) (fun md b h => h.2.2.1)).to (fun b => ⟨fun h => ⟨h.1, h.2.1, h.2.2.1, rfl, h.2.2.2⟩, fun h => ⟨h.1, h.2.1, h.2.2.1, h.2.2.2.2⟩⟩) (fun b _ => rfl)
/-- A global. -/
structure Glob where
  ty : Nat
  mu : Bool
  init : List Ins.Ins
def globalP : Par Glob := bnd valueP fun t => bnd (among 2) fun m => bnd bodyP fun b => pur ⟨t, decide (m = 1), b⟩
def globB (g : Glob) : List Nat := [g.ty] ++ ([flagB g.mu] ++ Ins.allBytes g.init)
def globOk (g : Glob) : Prop := (g.ty = 127 ∨ g.ty = 126) ∧ Ins.closedI g.init
theorem pre_global : Pre globalP := pre_bnd pre_value fun _ => pre_bnd (pre_among 2) fun _ => pre_bnd pre_body fun _ => pre_pur _
theorem reads_flag {β : Type} {f : Nat → Par β} {putB : β → List Nat} {okB : Bool → β → Prop} (prj : β → Bool) (hf : ∀ m : Bool, Reads (f (flagB m)) putB (okB m)) (hprj : ∀ m b, okB m b → prj b = m) :
    Reads (bnd (among 2) f) (fun b => [flagB (prj b)] ++ putB b) (fun b => okB (prj b) b) := by
  refine (reads_bndD (okB := fun m b => okB (decide (m = 1)) b ∧ m < 2) (putB := putB) (fun b => flagB (prj b)) (reads_among 2 (by omega)) (fun m hm => ?_) (fun m b h => ?_)).to (fun b => ⟨fun h => ?_, fun h => ?_⟩) (fun b _ => rfl)
  · have h1 : flagB (decide (m = 1)) = m := by
      unfold flagB
      by_cases h1 : m = 1
      · simp [h1]
      · simp [h1]; omega
    have := hf (decide (m = 1))
    rw [h1] at this
    exact this.to (fun b => ⟨fun h => h.1, fun h => ⟨h, hm⟩⟩) (fun _ _ => rfl)
  · rw [hprj _ b h.1]
    have := h.2
    unfold flagB
    by_cases h1 : m = 1
    · simp [h1]
    · simp [h1]; omega
  · refine ⟨by unfold flagB; split <;> omega, ?_, by unfold flagB; split <;> omega⟩
    have : decide (flagB (prj b) = 1) = prj b := by unfold flagB; cases prj b <;> simp
    rw [this]; exact h
  · have : decide (flagB (prj b) = 1) = prj b := by unfold flagB; cases prj b <;> simp
    have h2 := h.2.1
    rw [this] at h2
    exact h2
theorem reads_global : Reads globalP globB globOk := by
  refine (reads_bndD (okB := fun t b => b.ty = t ∧ Ins.closedI b.init) (putB := fun b : Glob => [flagB b.mu] ++ Ins.allBytes b.init) (fun b => b.ty) reads_value (fun t _ => (reads_flag (f := fun m => bnd bodyP fun b => pur (⟨t, decide (m = 1), b⟩ : Glob)) (okB := fun m b => b.ty = t ∧ b.mu = m ∧ Ins.closedI b.init) (putB := fun b : Glob => Ins.allBytes b.init) (fun b => b.mu) (fun m => (reads_bndD (okB := fun x b => b = (⟨t, m, x⟩ : Glob)) (putB := fun _ => []) (fun b => b.init) reads_body (fun x _ => (reads_pur _).to (fun b => ?_) (fun _ _ => rfl)) (fun x b h => by rw [h])).to (fun b => ⟨fun h => ?_, fun h => ?_⟩) (fun b _ => by simp)) (fun m b h => h.2.1)).to (fun b => ⟨fun h => ⟨h.1, rfl, h.2⟩, fun h => ⟨h.1, h.2.2⟩⟩) (fun b _ => rfl)) (fun t b h => h.1)).to (fun b => ⟨fun h => ⟨h.1, rfl, h.2⟩, fun h => ⟨h.1, h.2.2⟩⟩) (fun b _ => rfl)
  · have : decide (flagB m = 1) = m := by unfold flagB; cases m <;> simp
    rw [this]
  · obtain ⟨rfl, rfl, h3⟩ := h
    exact ⟨h3, rfl⟩
  · obtain ⟨h1, h2⟩ := h
    rw [h2]
    exact ⟨rfl, rfl, h1⟩
/-- An export. -/
structure Expo where
  nm : ByteArray
  kind : Nat
  idx : Nat
def exportP : Par Expo := bnd nameP fun s => bnd (among 4) fun k => bnd num fun n => pur ⟨s, k, n⟩
def expoB (x : Expo) : List Nat := nameB x.nm ++ ([x.kind] ++ putU x.idx)
def expoOk (x : Expo) : Prop := nameOk x.nm ∧ x.kind < 4 ∧ x.idx < 4294967296
theorem pre_export : Pre exportP := pre_bnd pre_name fun _ => pre_bnd (pre_among 4) fun _ => pre_bnd pre_num fun _ => pre_pur _
theorem reads_export : Reads exportP expoB expoOk := by
  refine (reads_bndD (okB := fun s b => b.nm = s ∧ b.kind < 4 ∧ b.idx < 4294967296) (putB := fun b : Expo => [b.kind] ++ putU b.idx) (fun b => b.nm) reads_name (fun s _ => (reads_bndD (okB := fun k b => b.nm = s ∧ b.kind = k ∧ b.idx < 4294967296) (putB := fun b : Expo => putU b.idx) (fun b => b.kind) (reads_among 4 (by omega)) (fun k _ => (reads_bndD (okB := fun n b => b = (⟨s, k, n⟩ : Expo)) (putB := fun _ => []) (fun b => b.idx) reads_num (fun n _ => reads_pur _) (fun n b h => by rw [h])).to (fun b => ⟨fun h => ?_, fun h => ?_⟩) (fun b _ => by simp)) (fun k b h => h.2.1)).to (fun b => ⟨fun h => ⟨h.2.1, h.1, rfl, h.2.2⟩, fun h => ⟨h.2.1, h.1, h.2.2.2⟩⟩) (fun b _ => rfl)) (fun s b h => h.1)).to (fun b => ⟨fun h => ⟨h.1, rfl, h.2⟩, fun h => ⟨h.1, h.2.2⟩⟩) (fun b _ => rfl)
  · obtain ⟨rfl, rfl, h3⟩ := h
    exact ⟨h3, rfl⟩
  · obtain ⟨h1, h2⟩ := h
    rw [h2]
    exact ⟨rfl, rfl, h1⟩
end Go.Proofs.Ytlbbnnljclndkaa.Mod
