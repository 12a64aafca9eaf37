/-
  ModMod: Modules in plain words: what bytes say, section by section; the one form in which a module is put; what was put is read. No condition; nothing of the program.
-/
import Derived.Test.YtlbbnnljclndkaaQModCode
namespace Go.Proofs.Ytlbbnnljclndkaa.Mod
open Go.RowKit Leb Sec

/-- A function: its type's number, its code. -/
structure Fn where
  ty : Nat
  code : Code
def noCode : Code := ⟨[], []⟩
structure Md where
  types : List (List Int × List Int)
  imps : List Imp
  funcs : List Fn
  tabs : List Lim
  mems : List Lim
  globs : List Glob
  expos : List Expo
  starts : List Nat
  els : List El
  counts : List Nat
  dats : List Dat
  cuss : List (ByteArray × List Nat)
def noMd : Md := ⟨[], [], [], [], [], [], [], [], [], [], [], []⟩
def tabP : Par Lim := bnd entries fun _ => limP
theorem pre_tab : Pre tabP := pre_bnd pre_entries fun _ => pre_lim
theorem reads_tab : Reads tabP (fun x => 112 :: limB x) limOk :=
  ((reads_bndD (okB := fun (_ : Unit) x => limOk x) (putB := limB) (fun _ => ()) reads_entries (fun _ _ => reads_lim) (fun _ _ _ => rfl)).to (fun _ => ⟨fun h => ⟨trivial, h⟩, fun h => h.2⟩) (fun _ _ => rfl))
/-- The codes of so many functions. -/
def codesP (n : Nat) : Par (List Code) := bnd num fun k => if k ≠ n then err 2 else rep codeP n
theorem pre_codes (n : Nat) : Pre (codesP n) := pre_bnd pre_num fun _ => pre_ite (pre_err _) (pre_rep pre_code n)
def codesB (cs : List Code) : List Nat := putU cs.length ++ cs.flatMap codeB
theorem reads_codes (n : Nat) : Reads (codesP n) codesB (fun cs => cs.length = n ∧ n < 4294967296 ∧ ∀ c ∈ cs, codeOk c) := by
  refine (reads_bndD (okB := fun k cs => cs.length = k ∧ k = n ∧ ∀ c ∈ cs, codeOk c) (putB := fun cs : List Code => cs.flatMap codeB) (fun cs => cs.length) reads_num (fun k _ => ?_) (fun k cs h => h.1)).to (fun cs => ⟨fun h => ⟨by omega, rfl, h.1, h.2.2⟩, fun h => ⟨h.2.2.1, by omega, h.2.2.2⟩⟩) (fun _ _ => rfl)
  by_cases hk : k ≠ n
  · simp only [if_pos hk]
    exact (reads_err 2 (fun _ : List Code => [])).none (fun _ h => h) (fun cs h => hk h.2.1)
  · have hkn : k = n := by omega
    subst hkn
    simp only [if_neg hk]
    exact (reads_rep reads_code k).to (fun cs => ⟨fun h => ⟨h.1, h.2.2⟩, fun h => ⟨h.1, trivial, h.2⟩⟩) (fun _ _ => rfl)
/-- The segments of data, where Counts may say how many. -/
def datsP (counts : List Nat) : Par (List Dat) := bnd num fun n => if counts ≠ [] ∧ counts ≠ [n] then err 2 else if 64 < n then err 4 else rep dataP n
theorem pre_dats (counts : List Nat) : Pre (datsP counts) := pre_bnd pre_num fun _ => pre_ite (pre_err _) (pre_ite (pre_err _) (pre_rep pre_data _))
def listB {α : Type} (put : α → List Nat) (xs : List α) : List Nat := putU xs.length ++ xs.flatMap put
theorem reads_dats (counts : List Nat) : Reads (datsP counts) (listB datB) (fun xs => (counts = [] ∨ counts = [xs.length]) ∧ xs.length ≤ 64 ∧ ∀ x ∈ xs, datOk x) := by
  refine (reads_bndD (okB := fun n xs => xs.length = n ∧ (counts = [] ∨ counts = [n]) ∧ n ≤ 64 ∧ ∀ x ∈ xs, datOk x) (putB := fun xs : List Dat => xs.flatMap datB) (fun xs => xs.length) reads_num (fun n _ => ?_) (fun n xs h => h.1)).to (fun xs => ⟨fun h => ⟨by omega, rfl, h⟩, fun h => h.2.2⟩) (fun _ _ => rfl)
  by_cases hc : counts ≠ [] ∧ counts ≠ [n]
  · simp only [if_pos hc]
    exact (reads_err 2 (fun _ : List Dat => [])).none (fun _ h => h) (fun xs h => h.2.1.elim hc.1 hc.2)
  · have hc2 : counts = [] ∨ counts = [n] := by
      by_cases h : counts = []
      · exact .inl h
      · exact .inr (Classical.byContradiction fun h2 => hc ⟨h, h2⟩)
    simp only [if_neg hc]
    by_cases h64 : 64 < n
    · simp only [if_pos h64]
      exact (reads_err 4 (fun _ : List Dat => [])).none (fun _ h => h) (fun xs h => by have := h.2.2.1; omega)
    · simp only [if_neg h64]
      exact (reads_rep reads_data n).to (fun xs => ⟨fun h => ⟨h.1, h.2.2.2⟩, fun h => ⟨h.1, hc2, by omega, h.2⟩⟩) (fun _ _ => rfl)
def upd {α : Type} (r : Except Nat α) (f : α → Md) : Except Nat Md := match r with | .error e => .error e | .ok a => .ok (f a)
def withCodes : List Fn → List Code → List Fn
  | f :: fs, c :: cs => ⟨f.ty, c⟩ :: withCodes fs cs
  | fs, _ => fs
/-- A section's bytes. -/
def secRes (id : Int) (b : List Nat) (m : Md) : Except Nat Md :=
  if id = 0 then (match nameP b with | .error e => .error e | .ok (s, n) => .ok { m with cuss := m.cuss ++ [(s, b.drop n)] })
  else if id = 1 then upd (whole (many funcP) b) fun xs => { m with types := m.types ++ xs }
  else if id = 2 then upd (whole (many importP) b) fun xs => { m with imps := m.imps ++ xs }
  else if id = 3 then upd (whole (many num) b) fun xs => { m with funcs := m.funcs ++ xs.map fun t => ⟨t, noCode⟩ }
  else if id = 4 then upd (whole (many tabP) b) fun xs => { m with tabs := m.tabs ++ xs }
  else if id = 5 then upd (whole (many limP) b) fun xs => { m with mems := m.mems ++ xs }
  else if id = 6 then upd (whole (many globalP) b) fun xs => { m with globs := m.globs ++ xs }
  else if id = 7 then upd (whole (many exportP) b) fun xs => { m with expos := m.expos ++ xs }
  else if id = 8 then upd (whole num b) fun n => { m with starts := [n] }
  else if id = 9 then upd (whole (many elemP) b) fun xs => { m with els := m.els ++ xs }
  else if id = 12 then upd (whole num b) fun n => { m with counts := [n] }
  else if id = 10 then upd (whole (codesP m.funcs.length) b) fun cs => { m with funcs := withCodes m.funcs cs }
  else upd (whole (datsP m.counts) b) fun xs => { m with dats := m.dats ++ xs }
def secsRes : List Sec → Md → Except Nat Md
  | [], m => .ok m
  | s :: l, m => match secRes s.id s.b m with | .error e => .error e | .ok m' => secsRes l m'
/-- What Decode answers. -/
def decodeRes (l : List Nat) : Md × Nat :=
  match secsRes (splitRes l).1 noMd with
  | .error e => (noMd, e)
  | .ok m =>
    if (splitRes l).2 ≠ 0 then (noMd, (splitRes l).2)
    else if (!m.funcs.isEmpty && (splitRes l).1.all fun s => decide (s.id ≠ 10)) || (m.counts.any (fun k => decide (0 < k)) && (splitRes l).1.all fun s => decide (s.id ≠ 11)) then (noMd, 2)
    else (m, 0)
/-- The sections that a module may have, and whether it has them. -/
def cands (m : Md) : List (Bool × Sec) :=
  [(!m.types.isEmpty, ⟨1, listB (fun x => Typ.funcBytes x.1 x.2) m.types⟩), (!m.imps.isEmpty, ⟨2, listB impB m.imps⟩), (!m.funcs.isEmpty, ⟨3, listB (fun f => putU f.ty) m.funcs⟩),
   (!m.tabs.isEmpty, ⟨4, listB (fun x => 112 :: limB x) m.tabs⟩), (!m.mems.isEmpty, ⟨5, listB limB m.mems⟩), (!m.globs.isEmpty, ⟨6, listB globB m.globs⟩), (!m.expos.isEmpty, ⟨7, listB expoB m.expos⟩),
   (!m.starts.isEmpty, ⟨8, m.starts.flatMap putU⟩), (!m.els.isEmpty, ⟨9, listB elB m.els⟩), (!m.counts.isEmpty, ⟨12, m.counts.flatMap putU⟩), (!m.funcs.isEmpty, ⟨10, codesB (m.funcs.map fun f => f.code)⟩), (!m.dats.isEmpty, ⟨11, listB datB m.dats⟩)]
def cusSec (c : ByteArray × List Nat) : Sec := ⟨0, nameB c.1 ++ c.2⟩
def encSecs (m : Md) : List Sec := ((cands m).filter fun c => c.1).map (fun c => c.2) ++ m.cuss.map cusSec
def encB (m : Md) : List Nat := joinBytes (encSecs m)
/-- What a module's parts must be, its size apart. -/
structure mdOk (m : Md) : Prop where
  types : m.types.length ≤ 64 ∧ ∀ x ∈ m.types, Typ.rightF x.1 x.2 = true
  imps : m.imps.length ≤ 64 ∧ ∀ x ∈ m.imps, impOk x
  funcs : m.funcs.length ≤ 64 ∧ ∀ f ∈ m.funcs, f.ty < 4294967296 ∧ codeOk f.code
  tabs : m.tabs.length ≤ 64 ∧ ∀ x ∈ m.tabs, limOk x
  mems : m.mems.length ≤ 64 ∧ ∀ x ∈ m.mems, limOk x
  globs : m.globs.length ≤ 64 ∧ ∀ x ∈ m.globs, globOk x
  expos : m.expos.length ≤ 64 ∧ ∀ x ∈ m.expos, expoOk x
  starts : m.starts.length ≤ 1 ∧ ∀ n ∈ m.starts, n < 4294967296
  els : m.els.length ≤ 64 ∧ ∀ x ∈ m.els, elOk x
  counts : m.counts = [] ∨ m.counts = [m.dats.length]
  dats : m.dats.length ≤ 64 ∧ ∀ x ∈ m.dats, datOk x
  cuss : ∀ c ∈ m.cuss, nameOk c.1 ∧ ∀ y ∈ c.2, y < 256
def mdFormed (m : Md) : Prop := mdOk m ∧ (encB m).length ≤ 65536
/-- Sections whose numbers rise are in order. -/
theorem orderF_of (l out : List Sec) (hr : ∀ s ∈ l, 0 ≤ s.id ∧ s.id ≤ 12) (ho : ∀ s ∈ out, ∀ t ∈ l, t.id = 0 ∨ s.id = 0 ∨ placeOf s.id < placeOf t.id) (hp : l.Pairwise fun s t => t.id = 0 ∨ s.id = 0 ∨ placeOf s.id < placeOf t.id) : orderF out l = true := by
  induction l generalizing out with
  | nil => rfl
  | cons s l ih =>
    rw [List.pairwise_cons] at hp
    simp only [orderF, Bool.and_eq_true]
    refine ⟨decide_eq_true ⟨(hr s (by simp)).1, (hr s (by simp)).2, fun t ht => ho t ht s (by simp)⟩, ih _ (fun t ht => hr t (by simp [ht])) (fun t ht u hu => ?_) hp.2⟩
    rcases List.mem_append.1 ht with ht | ht
    · exact ho t ht u (by simp [hu])
    · rw [List.mem_singleton.1 ht]; exact hp.1 u hu
theorem cands_ids (m : Md) : (cands m).Pairwise fun s t => t.2.id = 0 ∨ s.2.id = 0 ∨ placeOf s.2.id < placeOf t.2.id := by
  have h : ((cands m).map fun c => c.2.id).Pairwise fun a b => b = 0 ∨ a = 0 ∨ placeOf a < placeOf b := by
    have e : (cands m).map (fun c => c.2.id) = [1, 2, 3, 4, 5, 6, 7, 8, 9, 12, 10, 11] := rfl
    rw [e]; decide
  rw [List.pairwise_map] at h
  exact h
theorem cands_range (m : Md) : ∀ c ∈ cands m, 1 ≤ c.2.id ∧ c.2.id ≤ 12 := by
  intro c hc
  have h : c.2.id ∈ (cands m).map fun c => c.2.id := List.mem_map.2 ⟨c, hc, rfl⟩
  have e : (cands m).map (fun c => c.2.id) = [1, 2, 3, 4, 5, 6, 7, 8, 9, 12, 10, 11] := rfl
  rw [e] at h
  simp only [List.mem_cons, List.not_mem_nil, or_false] at h
  omega
theorem enc_order (m : Md) : order (encSecs m) = true := by
  refine orderF_of _ [] (fun s hs => ?_) (by simp) ?_
  · rcases List.mem_append.1 hs with h | h
    · obtain ⟨c, hc, rfl⟩ := List.mem_map.1 h
      have := cands_range m c (List.mem_filter.1 hc).1
      omega
    · obtain ⟨c, _, rfl⟩ := List.mem_map.1 h
      exact ⟨by simp [cusSec], by simp [cusSec]⟩
  · rw [encSecs, List.pairwise_append]
    refine ⟨?_, ?_, ?_⟩
    · rw [List.pairwise_map]
      exact (cands_ids m).filter _
    · rw [List.pairwise_map]
      exact List.pairwise_of_forall fun _ _ => .inl rfl
    · intro s _ t ht
      obtain ⟨c, _, rfl⟩ := List.mem_map.1 ht
      exact .inl rfl
theorem secsRes_app (a b : List Sec) (m : Md) : secsRes (a ++ b) m = match secsRes a m with | .error e => .error e | .ok m' => secsRes b m' := by
  induction a generalizing m with
  | nil => rfl
  | cons s a ih =>
    simp only [List.cons_append, secsRes]
    cases secRes s.id s.b m with
    | error e => rfl
    | ok m' => exact ih m'
/-- One that may be there, then the others. -/
theorem secsRes_opt {c : Bool} {s : Sec} {l : List (Bool × Sec)} {m m' : Md} {r : List Sec} (h1 : c = true → secRes s.id s.b m = .ok m') (h0 : c = false → m' = m) : secsRes ((((c, s) :: l).filter fun c => c.1).map (fun c => c.2) ++ r) m = secsRes ((l.filter fun c => c.1).map (fun c => c.2) ++ r) m' := by
  cases c with
  | true =>
    have := h1 rfl
    simp only [List.filter_cons, if_true, List.map_cons, List.cons_append, secsRes]
    rw [this]
  | false =>
    rw [h0 rfl]
    simp
end Go.Proofs.Ytlbbnnljclndkaa.Mod
