/-
  ModOpen: Arguments opened by kinds: what the row reads as data is a kind of things in memory; a module that came in. Conditions as each lemma says.
-/
import Derived.Test.YtlbbnnljclndkaaQModMdR
import Derived.Lib.SmallJoins
import Derived.ProofKit
import Derived.OpenShut
import Derived.Deep.Slices
import Derived.Deep.Fields
import Derived.ChangeSame
namespace Go.Proofs.Ytlbbnnljclndkaa.Opn
open _root_.Go.Proofs.Ytlbbnnljclndkaa.Mod
open Go.RowKit Leb Go.Joins Go.ChangeShapes Go.WideShapes Go.Deep

section
variable {H : Type} {enc : TypeId × Value → H} {w : World} {base : Nat} {held : Bool}
/-- What is read as data of a type is of a kind. -/
def ReadsT {α : Type} (enc : TypeId × Value → H) (w : World) (base : Nat) (held : Bool) (t : TypeId) (R : Rep α) (ok : α → Prop) : Prop :=
  ∀ (n : Nat) (cs : List Value) (y : DataW H × List MemPlace), DataW.trod enc Try.prog w base (fun _ => true) held n t cs = some y → ∃ x, R.at_ w (fun b => b < w.heap.size) cs x ∧ ok x
/-- Fields, from a place on. -/
def ReadsF {α : Type} (enc : TypeId × Value → H) (w : World) (base : Nat) (held : Bool) (o : Nat) (fs : List Field) (R : Rep α) (ok : α → Prop) : Prop :=
  ∀ (n : Nat) (cs : List Value), cs.length = o + R.k → (∀ f ∈ fs, ∃ y, DataW.trod enc Try.prog w base (fun _ => true) held n f.type ((cs.drop f.offset).take (Try.prog.cellsOf f.type)) = some y) → ∃ x, R.at_ w (fun b => b < w.heap.size) (cs.drop o) x ∧ ok x
theorem reads_int {t : TypeId} (ht : Try.prog.underlying t = some (.int .i64)) : ReadsT enc w base held t intR (fun n => Typ.I64 n) := fun n cs y h => by
  obtain ⟨a, rfl, _, hw⟩ := DataW.trod_int ht h
  exact ⟨a, rfl, bounds_i64 hw⟩
theorem reads_bool {t : TypeId} (ht : Try.prog.underlying t = some .bool) : ReadsT enc w base held t boolR (fun _ => True) := fun n cs y h => by
  obtain ⟨a, rfl, _⟩ := DataW.trod_bool ht h
  exact ⟨a, rfl, trivial⟩
theorem reads_str {t : TypeId} (ht : Try.prog.underlying t = some .string) : ReadsT enc w base held t strR (fun s => s.size ≤ maxLen) := fun n cs y h => by
  obtain ⟨a, rfl, _, hw⟩ := DataW.trod_string ht h
  exact ⟨a, rfl, hw⟩
theorem reads_byte {t : TypeId} (ht : Try.prog.underlying t = some (.int .u8)) : ReadsT enc w base held t byteR (fun _ => True) := fun n cs y h => by
  obtain ⟨a, rfl, _, hw⟩ := DataW.trod_int ht h
  have hb := bounds_u8 hw
  refine ⟨a.toNat, ⟨?_, ?_⟩, trivial⟩
  · rw [Int.toNat_of_nonneg hb.1]
  · omega
theorem reads_map {α β : Type} {t : TypeId} {R : Rep α} {ok : α → Prop} {ok' : β → Prop} (f : β → α) (g : α → β) (h : ReadsT enc w base held t R ok) (hfg : ∀ x, f (g x) = x) (ho : ∀ x, ok x → ok' (g x)) : ReadsT enc w base held t (mapR f R) ok' := fun n cs y hy => by
  obtain ⟨x, h1, h2⟩ := h n cs y hy
  refine ⟨g x, ?_, ho x h2⟩
  show R.at_ w _ cs (f (g x))
  rw [hfg]
  exact h1
theorem readsF_map {α β : Type} {o : Nat} {fs : List Field} {R : Rep α} {ok : α → Prop} {ok' : β → Prop} (f : β → α) (g : α → β) (h : ReadsF enc w base held o fs R ok) (hfg : ∀ x, f (g x) = x) (ho : ∀ x, ok x → ok' (g x)) : ReadsF enc w base held o fs (mapR f R) ok' := fun n cs hl hy => by
  obtain ⟨x, h1, h2⟩ := h n cs hl hy
  refine ⟨g x, ?_, ho x h2⟩
  show R.at_ w _ (cs.drop o) (f (g x))
  rw [hfg]
  exact h1
theorem readsF_one {α : Type} {o : Nat} {f : Field} {R : Rep α} {ok : α → Prop} (h : ReadsT enc w base held f.type R ok) (ho : f.offset = o) (hk : Try.prog.cellsOf f.type = R.k) : ReadsF enc w base held o [f] R ok := fun n cs hl hy => by
  obtain ⟨y, h1⟩ := hy f (by simp)
  rw [ho, hk] at h1
  obtain ⟨x, h2, h3⟩ := h _ _ _ h1
  refine ⟨x, ?_, h3⟩
  rwa [List.take_of_length_le (by rw [List.length_drop]; omega)] at h2
theorem readsF_cons {α β : Type} {o : Nat} {f : Field} {fs : List Field} {R : Rep α} {S : Rep β} {ok : α → Prop} {ok' : β → Prop} (h : ReadsT enc w base held f.type R ok) (ho : f.offset = o) (hk : Try.prog.cellsOf f.type = R.k) (hs : ReadsF enc w base held (o + R.k) fs S ok') : ReadsF enc w base held o (f :: fs) (seqR R S) (fun x => ok x.1 ∧ ok' x.2) := fun n cs hl hy => by
  obtain ⟨y, h1⟩ := hy f (by simp)
  rw [ho, hk] at h1
  obtain ⟨x, h2, h3⟩ := h _ _ _ h1
  have hl' : cs.length = o + (R.k + S.k) := hl
  obtain ⟨z, h4, h5⟩ := hs n cs (by omega) fun f' hf' => hy f' (by simp [hf'])
  refine ⟨(x, z), ⟨_, _, ?_, h2, h4⟩, h3, h5⟩
  rw [← List.drop_drop, List.take_append_drop]
theorem reads_struct {α : Type} {t : TypeId} {fs : Array Field} {R : Rep α} {ok : α → Prop} (ht : Try.prog.underlying t = some (.struct fs)) (hk : Try.prog.cellsOf t = R.k) (h : ReadsF enc w base held 0 fs.toList R ok) : ReadsT enc w base held t R ok := fun n cs y hy => by
  obtain ⟨xs, m, _, _, hlen, hxl, hf⟩ := DataW.trod_struct ht hy
  obtain ⟨x, h1, h2⟩ := h m cs (by rw [hlen, hk, Nat.zero_add]) fun f hf' => by
    obtain ⟨i, hi, rfl⟩ := List.getElem_of_mem hf'
    have hi' : i < fs.size := by simpa using hi
    have := hf i _ (Array.getElem?_eq_getElem hi')
    refine ⟨xs[i]'(by omega), ?_⟩
    rw [List.getElem?_eq_getElem (by omega)] at this
    simpa using this
  exact ⟨x, h1, h2⟩
set_option maxRecDepth 100000 in
theorem reads_slice {α : Type} {t e : TypeId} {R : Rep α} {ok : α → Prop} (ht : Try.prog.underlying t = some (.slice e)) (hk : Try.prog.cellsOf e = R.k) (h : ReadsT enc w base held e R ok) : ReadsT enc w base held t (lstR R) (fun l => (∀ x ∈ l, ok x) ∧ l.length ≤ maxLen) := fun n cs y hy => by
  rcases open_slice ht hy with ⟨hcs, _⟩ | ⟨ad, len, cap, m, n', D, Pl, hcs, _, hl, hm, hmm, _, hi⟩
  · exact ⟨[], ⟨none, 0, hcs, lst_none _ _ _⟩, by simp, Nat.zero_le _⟩
  · simp only [if_true] at hmm
    subst hmm
    rw [hk] at hi
    have key : ∀ i, i < len → ∃ (x : α), ok x ∧ ∃ us, R.at_ w (fun b => b < w.heap.size) us x ∧ ∀ j (hj : j < us.length), w.cell? ((ad.add (i * R.k)).add j) = some us[j] := by
      intro i hlt
      obtain ⟨cs', hc, hy'⟩ := hi i (by omega)
      obtain ⟨x, h1, h2⟩ := h _ _ _ hy'
      obtain ⟨_, hl', hat⟩ := World.cells?_some hc
      refine ⟨x, h2, cs', h1, fun j hj => ?_⟩
      rw [hat j (by omega), List.getElem?_eq_getElem hj]
    obtain ⟨b, off, spot⟩ := ad
    rcases Nat.eq_zero_or_pos len with h0 | h0
    · subst h0
      exact ⟨[], ⟨_, _, hcs, Row.nil _ _ _ _, (fun h => by cases h), Nat.zero_le _⟩, by simp, Nat.zero_le _⟩
    · have hs0 : ((⟨b, off, spot⟩ : Addr).add (0 * R.k)).add 0 = ⟨b, off, spot⟩ := by simp [Addr.add]
      obtain ⟨x0, _, us0, ha0, hc0⟩ := key 0 h0
      have hcc := hc0 0 (by rw [R.len ha0]; exact R.pos)
      rw [hs0] at hcc
      have hspot : spot = none := by
        have := World.cell?_spot hcc
        simpa [Addr.add] using this
      subst hspot
      have hblk : b < w.heap.size := by
        have := World.block_lt_of_cell? w _ hcc
        simpa [Addr.add] using this
      refine ⟨(List.range len).map fun i => if h : i < len then Classical.choose (key i h) else x0, ⟨some ⟨b, off, none⟩, _, ?_, ⟨?_, (fun h => by cases h), by simpa using hl⟩⟩, ?_, by simp; omega⟩
      · simpa using hcs
      · intro _
        refine ⟨b, off, rfl, hblk, fun j hj => ?_⟩
        have hj' : j < len := by simpa using hj
        simp only [List.getElem_map, List.getElem_range, hj', dite_true]
        obtain ⟨_, us, h1, h2⟩ := Classical.choose_spec (key j hj')
        generalize Classical.choose (key j hj') = x at *
        refine ⟨us, h1, fun i hi => ?_⟩
        have := h2 i hi
        have e : (Addr.add (Addr.add ⟨b, off, none⟩ (j * R.k)) i) = ⟨b, off + (j * R.k + i), none⟩ := by
          unfold Addr.add
          by_cases q1 : j * R.k = 0 <;> by_cases q2 : i = 0 <;> simp [q1, q2, Nat.add_assoc]
        rw [e] at this
        exact this
      · intro x hx
        obtain ⟨i, hi, rfl⟩ := List.mem_map.1 hx
        have hi' : i < len := by simpa using hi
        simp only [hi', dite_true]
        exact (Classical.choose_spec (key i hi')).1
/-! ### The types of a module -/
def IL (l : List Int) : Prop := (∀ x ∈ l, Typ.I64 x) ∧ l.length ≤ maxLen
def BL (l : List Nat) : Prop := l.length ≤ maxLen
def SL (s : ByteArray) : Prop := s.size ≤ maxLen
def InsIn (x : Ins.Ins) : Prop := Ins.wide x ∧ x.l.length ≤ maxLen
def Bdy (l : List Ins.Ins) : Prop := (∀ x ∈ l, InsIn x) ∧ l.length ≤ maxLen
def FtIn (x : GFt) : Prop := IL x.1 ∧ IL x.2
def LimIn (x : GLim) : Prop := Typ.I64 x.1 ∧ Typ.I64 x.2.2
def ImpIn (x : GImp) : Prop := SL x.md ∧ SL x.nm ∧ Typ.I64 x.kind ∧ Typ.I64 x.ty ∧ LimIn x.lim
def FnIn (x : GFn) : Prop := Typ.I64 x.ty ∧ IL x.locals ∧ Bdy x.body
def GlobIn (x : GGlob) : Prop := Typ.I64 x.ty ∧ Bdy x.init
def ExpoIn (x : GExpo) : Prop := SL x.nm ∧ Typ.I64 x.kind ∧ Typ.I64 x.idx
def ElIn (x : GEl) : Prop := Typ.I64 x.mode ∧ Bdy x.off ∧ IL x.fs
def DatIn (x : GDat) : Prop := Typ.I64 x.mode ∧ Bdy x.off ∧ BL x.bs
def CusIn (x : GCus) : Prop := SL x.1 ∧ BL x.2
def AllIn {α : Type} (P : α → Prop) (l : List α) : Prop := (∀ x ∈ l, P x) ∧ l.length ≤ maxLen
theorem reads_ints {t : TypeId} (ht : Try.prog.underlying t = some (.slice 3)) : ReadsT enc w base held t (lstR intR) IL := reads_slice ht (by kernel_rfl) (reads_int Try.underlying3)
theorem reads_bytes : ReadsT enc w base held 50 (lstR byteR) BL := fun n cs y hy => by
  obtain ⟨x, h1, h2⟩ := reads_slice (ok := fun _ => True) Try.underlying50 (by kernel_rfl) (reads_byte Try.underlying5) n cs y hy
  exact ⟨x, h1, h2.2⟩
set_option maxRecDepth 100000 in
theorem reads_ins : ReadsT enc w base held 81 insR InsIn := by
  refine reads_map (α := Int × Int × Int × Int × List Int) _ (fun q => ⟨q.1, q.2.1, q.2.2.1, q.2.2.2.1, q.2.2.2.2⟩) (reads_struct Try.underlying81 (by kernel_rfl) (readsF_cons (reads_int Try.underlying3) rfl (by kernel_rfl) (readsF_cons (reads_int Try.underlying3) rfl (by kernel_rfl) (readsF_cons (reads_int Try.underlying3) rfl (by kernel_rfl) (readsF_cons (reads_int Try.underlying2) rfl (by kernel_rfl) (readsF_one (reads_ints Try.underlying28) rfl (by kernel_rfl))))))) (fun _ => rfl) ?_
  rintro ⟨a, b, c, d, l⟩ ⟨h1, h2, h3, h4, h5, h6⟩
  exact ⟨⟨h1, h2, h3, h4, h5⟩, h6⟩
theorem reads_body : ReadsT enc w base held 47 (lstR insR) Bdy := reads_slice Try.underlying47 (by kernel_rfl) reads_ins
set_option maxRecDepth 100000 in
theorem reads_ft : ReadsT enc w base held 46 ftR FtIn := reads_struct (R := ftR) Try.underlying46 (by kernel_rfl) (readsF_cons (reads_ints Try.underlying28) rfl (by kernel_rfl) (readsF_one (reads_ints Try.underlying28) rfl (by kernel_rfl)))
set_option maxRecDepth 100000 in
theorem reads_lim : ReadsT enc w base held 60 limR LimIn := by
  have h := reads_struct (enc := enc) (w := w) (base := base) (held := held) (R := limR) Try.underlying60 (by kernel_rfl) (readsF_cons (reads_int Try.underlying3) rfl (by kernel_rfl) (readsF_cons (reads_bool Try.underlying4) rfl (by kernel_rfl) (readsF_one (reads_int Try.underlying3) rfl (by kernel_rfl))))
  exact fun n cs y hy => by obtain ⟨x, h1, h2, _, h3⟩ := h n cs y hy; exact ⟨x, h1, h2, h3⟩
set_option maxRecDepth 100000 in
theorem reads_imp : ReadsT enc w base held 62 impR ImpIn := by
  refine reads_map (α := ByteArray × ByteArray × Int × Int × GLim × Bool) _ (fun q => ⟨q.1, q.2.1, q.2.2.1, q.2.2.2.1, q.2.2.2.2.1, q.2.2.2.2.2⟩) (reads_struct Try.underlying62 (by kernel_rfl) (readsF_cons (reads_str Try.underlying9) rfl (by kernel_rfl) (readsF_cons (reads_str Try.underlying9) rfl (by kernel_rfl) (readsF_cons (reads_int Try.underlying3) rfl (by kernel_rfl) (readsF_cons (reads_int Try.underlying3) rfl (by kernel_rfl) (readsF_cons reads_lim rfl (by kernel_rfl) (readsF_one (reads_bool Try.underlying4) rfl (by kernel_rfl)))))))) (fun _ => rfl) ?_
  rintro ⟨a, b, q⟩ ⟨h1, h2, h3, h4, h5, _⟩
  exact ⟨h1, h2, h3, h4, h5⟩
set_option maxRecDepth 100000 in
theorem reads_fn : ReadsT enc w base held 55 fnR FnIn := reads_map (α := Int × List Int × List Ins.Ins) _ (fun q => ⟨q.1, q.2.1, q.2.2⟩) (reads_struct Try.underlying55 (by kernel_rfl) (readsF_cons (reads_int Try.underlying3) rfl (by kernel_rfl) (readsF_cons (reads_ints Try.underlying28) rfl (by kernel_rfl) (readsF_one reads_body rfl (by kernel_rfl))))) (fun _ => rfl) (fun _ h => h)
set_option maxRecDepth 100000 in
theorem reads_glob : ReadsT enc w base held 65 globR GlobIn := reads_map (α := Int × Bool × List Ins.Ins) _ (fun q => ⟨q.1, q.2.1, q.2.2⟩) (reads_struct Try.underlying65 (by kernel_rfl) (readsF_cons (reads_int Try.underlying3) rfl (by kernel_rfl) (readsF_cons (reads_bool Try.underlying4) rfl (by kernel_rfl) (readsF_one reads_body rfl (by kernel_rfl))))) (fun _ => rfl) (fun _ h => ⟨h.1, h.2.2⟩)
set_option maxRecDepth 100000 in
theorem reads_expo : ReadsT enc w base held 67 expoR ExpoIn := reads_map (α := ByteArray × Int × Int) _ (fun q => ⟨q.1, q.2.1, q.2.2⟩) (reads_struct Try.underlying67 (by kernel_rfl) (readsF_cons (reads_str Try.underlying9) rfl (by kernel_rfl) (readsF_cons (reads_int Try.underlying3) rfl (by kernel_rfl) (readsF_one (reads_int Try.underlying3) rfl (by kernel_rfl))))) (fun _ => rfl) (fun _ h => h)
set_option maxRecDepth 100000 in
theorem reads_el : ReadsT enc w base held 49 elR ElIn := reads_map (α := Int × List Ins.Ins × List Int) _ (fun q => ⟨q.1, q.2.1, q.2.2⟩) (reads_struct Try.underlying49 (by kernel_rfl) (readsF_cons (reads_int Try.underlying3) rfl (by kernel_rfl) (readsF_cons reads_body rfl (by kernel_rfl) (readsF_one (reads_ints Try.underlying28) rfl (by kernel_rfl))))) (fun _ => rfl) (fun _ h => h)
set_option maxRecDepth 100000 in
theorem reads_dat : ReadsT enc w base held 52 datR DatIn := reads_map (α := Int × List Ins.Ins × List Nat) _ (fun q => ⟨q.1, q.2.1, q.2.2⟩) (reads_struct Try.underlying52 (by kernel_rfl) (readsF_cons (reads_int Try.underlying3) rfl (by kernel_rfl) (readsF_cons reads_body rfl (by kernel_rfl) (readsF_one reads_bytes rfl (by kernel_rfl))))) (fun _ => rfl) (fun _ h => h)
set_option maxRecDepth 100000 in
theorem reads_cus : ReadsT enc w base held 69 cusR CusIn := reads_struct (R := cusR) Try.underlying69 (by kernel_rfl) (readsF_cons (reads_str Try.underlying9) rfl (by kernel_rfl) (readsF_one reads_bytes rfl (by kernel_rfl)))
/-- What holds of a module that came in. -/
structure GIn (g : GMd) : Prop where
  types : AllIn FtIn g.types
  imps : AllIn ImpIn g.imps
  funcs : AllIn FnIn g.funcs
  tabs : AllIn LimIn g.tabs
  mems : AllIn LimIn g.mems
  globs : AllIn GlobIn g.globs
  expos : AllIn ExpoIn g.expos
  starts : IL g.starts
  els : AllIn ElIn g.els
  counts : IL g.counts
  dats : AllIn DatIn g.dats
  cuss : AllIn CusIn g.cuss
set_option maxRecDepth 100000 in
theorem reads_md : ReadsT enc w base held 33 mdR GIn := by
  refine reads_map (α := List GFt × List GImp × List GFn × List GLim × List GLim × List GGlob × List GExpo × List Int × List GEl × List Int × List GDat × List GCus) _ (fun q => ⟨q.1, q.2.1, q.2.2.1, q.2.2.2.1, q.2.2.2.2.1, q.2.2.2.2.2.1, q.2.2.2.2.2.2.1, q.2.2.2.2.2.2.2.1, q.2.2.2.2.2.2.2.2.1, q.2.2.2.2.2.2.2.2.2.1, q.2.2.2.2.2.2.2.2.2.2.1, q.2.2.2.2.2.2.2.2.2.2.2⟩)
    (reads_struct Try.underlying33 (by kernel_rfl)
      (readsF_cons (reads_slice Try.underlying22 (by kernel_rfl) reads_ft) rfl (by kernel_rfl)
      (readsF_cons (reads_slice Try.underlying23 (by kernel_rfl) reads_imp) rfl (by kernel_rfl)
      (readsF_cons (reads_slice Try.underlying24 (by kernel_rfl) reads_fn) rfl (by kernel_rfl)
      (readsF_cons (reads_slice Try.underlying25 (by kernel_rfl) reads_lim) rfl (by kernel_rfl)
      (readsF_cons (reads_slice Try.underlying25 (by kernel_rfl) reads_lim) rfl (by kernel_rfl)
      (readsF_cons (reads_slice Try.underlying26 (by kernel_rfl) reads_glob) rfl (by kernel_rfl)
      (readsF_cons (reads_slice Try.underlying27 (by kernel_rfl) reads_expo) rfl (by kernel_rfl)
      (readsF_cons (reads_ints Try.underlying28) rfl (by kernel_rfl)
      (readsF_cons (reads_slice Try.underlying29 (by kernel_rfl) reads_el) rfl (by kernel_rfl)
      (readsF_cons (reads_ints Try.underlying28) rfl (by kernel_rfl)
      (readsF_cons (reads_slice Try.underlying30 (by kernel_rfl) reads_dat) rfl (by kernel_rfl)
      (readsF_one (reads_slice Try.underlying31 (by kernel_rfl) reads_cus) rfl (by kernel_rfl))))))))))))))
    (fun _ => rfl) ?_
  rintro ⟨q0, q1, q2, q3, q4, q5, q6, q7, q8, q9, q10, q11⟩ ⟨h0, h1, h2, h3, h4, h5, h6, h7, h8, h9, h10, h11⟩
  exact ⟨h0, h1, h2, h3, h4, h5, h6, h7, h8, h9, h10, h11⟩
/-- A module that came in. -/
def MdIn (w : World) (v : Value) : Prop := ∃ g, mdV (fun b => b < w.heap.size) w v g ∧ GIn g
variable {r : Reach} {b0 : Nat} {v : Value} {d : DataW H} {p : List MemPlace}
set_option maxRecDepth 100000 in
theorem mdIn_of (hv : Value.okWide Try.prog w r b0 33 v) (h : DataW.Trod enc Try.prog w base (fun _ => true) held 33 v d p) : MdIn w v := by
  obtain ⟨cs, rfl, hsz⟩ := okWide_struct Try.underlying33 hv
  obtain ⟨fuel, hf⟩ := h
  obtain ⟨g, h1, h2⟩ := reads_md _ _ _ hf
  obtain ⟨p, h3, h4⟩ := mdR_at.1 h1
  refine ⟨g, ⟨p, ?_, h4⟩, h2⟩
  simp only [Value.cells] at h3
  rw [← h3]
end
end Go.Proofs.Ytlbbnnljclndkaa.Opn
