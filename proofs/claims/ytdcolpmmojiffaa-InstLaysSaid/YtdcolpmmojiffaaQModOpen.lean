/-
  ModOpen: Arguments opened by kinds: what the row reads as data is a kind of things in memory; a module that came in. Conditions as each lemma says.
-/
import Derived.Test.YtdcolpmmojiffaaQModMdR
import Derived.Lib.SmallJoins
import Derived.ProofKit
import Derived.OpenShut
import Derived.Deep.Slices
import Derived.Deep.Fields
import Derived.ChangeSame
namespace Go.Proofs.Ytdcolpmmojiffaa.Opn
open _root_.Go.Proofs.Ytdcolpmmojiffaa.Mod
open Go.RowKit Leb Go.Joins Go.ChangeShapes Go.WideShapes Go.Deep

section
variable {H : Type} {enc : TypeId × Value → H} {w : World} {base : Nat} {held : Bool}
def ReadsT {α : Type} (enc : TypeId × Value → H) (w : World) (base : Nat) (held : Bool) (t : TypeId) (R : Rep α) (ok : α → Prop) : Prop :=
  ∀ (n : Nat) (cs : List Value) (y : DataW H × List MemPlace), DataW.trod enc Try.prog w base (fun _ => true) held n t cs = some y → ∃ x, R.at_ w (fun b => b < w.heap.size) cs x ∧ ok x
def ReadsF {α : Type} (enc : TypeId × Value → H) (w : World) (base : Nat) (held : Bool) (o : Nat) (fs : List Field) (R : Rep α) (ok : α → Prop) : Prop :=
  ∀ (n : Nat) (cs : List Value), cs.length = o + R.k → (∀ f ∈ fs, ∃ y, DataW.trod enc Try.prog w base (fun _ => true) held n f.type ((cs.drop f.offset).take (Try.prog.cellsOf f.type)) = some y) → ∃ x, R.at_ w (fun b => b < w.heap.size) (cs.drop o) x ∧ ok x
theorem reads_int {t : TypeId} (ht : Try.prog.underlying t = some (.int .i64)) : ReadsT enc w base held t intR (fun n => Typ.I64 n) := fun n cs y h => by
  obtain ⟨a, rfl, _, hw⟩ := DataW.trod_int ht h
  exact ⟨a, rfl, bounds_i64 hw⟩
theorem reads_bool {t : TypeId} (ht : Try.prog.underlying t = some .bool) : ReadsT enc w base held t boolR (fun _ => True) := fun n cs y h => by
  obtain ⟨a, rfl, _⟩ := DataW.trod_bool ht h
  exact ⟨a, rfl, trivial⟩
theorem reads_byte {t : TypeId} (ht : Try.prog.underlying t = some (.int .u8)) : ReadsT enc w base held t byteR (fun _ => True) := fun n cs y h => by
  obtain ⟨a, rfl, _, hw⟩ := DataW.trod_int ht h
  have hb := bounds_u8 hw
  refine ⟨a.toNat, ⟨?_, ?_⟩, trivial⟩
  · rw [Int.toNat_of_nonneg hb.1]
  · omega
theorem reads_map {α β : Type} {t : TypeId} {R : Rep α} {ok : α → Prop} {ok' : β → Prop} (f : β → α) (g : α → β) (h : ReadsT enc w base held t R ok) (hfg : ∀ x, f (g x) = x) (ho : ∀ x, ok x → ok' (g x)) : ReadsT enc w base held t (mapR f R) ok' := fun n cs y hy => by
  obtain ⟨x, h1, h2⟩ := h n cs y hy
  refine ⟨g x, ?_, ho x h2⟩
  show R.at_ w _ cs (f (g x))
  rw [hfg]
  exact h1
theorem readsF_one {α : Type} {o : Nat} {f : Field} {R : Rep α} {ok : α → Prop} (h : ReadsT enc w base held f.type R ok) (ho : f.offset = o) (hk : Try.prog.cellsOf f.type = R.k) : ReadsF enc w base held o [f] R ok := fun n cs hl hy => by
  obtain ⟨y, h1⟩ := hy f (by simp)
  rw [ho, hk] at h1
  obtain ⟨x, h2, h3⟩ := h _ _ _ h1
  refine ⟨x, ?_, h3⟩
  rwa [List.take_of_length_le (by rw [List.length_drop]; omega)] at h2
theorem readsF_cons {α β : Type} {o : Nat} {f : Field} {fs : List Field} {R : Rep α} {S : Rep β} {ok : α → Prop} {ok' : β → Prop} (h : ReadsT enc w base held f.type R ok) (ho : f.offset = o) (hk : Try.prog.cellsOf f.type = R.k) (hs : ReadsF enc w base held (o + R.k) fs S ok') : ReadsF enc w base held o (f :: fs) (seqR R S) (fun x => ok x.1 ∧ ok' x.2) := fun n cs hl hy => by
  obtain ⟨y, h1⟩ := hy f (by simp)
  rw [ho, hk] at h1
  obtain ⟨x, h2, h3⟩ := h _ _ _ h1
  have hl' : cs.length = o + (R.k + S.k) := hl
  obtain ⟨z, h4, h5⟩ := hs n cs (by omega) fun f' hf' => hy f' (by simp [hf'])
  refine ⟨(x, z), ⟨_, _, ?_, h2, h4⟩, h3, h5⟩
  rw [← List.drop_drop, List.take_append_drop]
theorem reads_struct {α : Type} {t : TypeId} {fs : Array Field} {R : Rep α} {ok : α → Prop} (ht : Try.prog.underlying t = some (.struct fs)) (hk : Try.prog.cellsOf t = R.k) (h : ReadsF enc w base held 0 fs.toList R ok) : ReadsT enc w base held t R ok := fun n cs y hy => by
  obtain ⟨xs, m, _, _, hlen, hxl, hf⟩ := DataW.trod_struct ht hy
  obtain ⟨x, h1, h2⟩ := h m cs (by rw [hlen, hk, Nat.zero_add]) fun f hf' => by
    obtain ⟨i, hi, rfl⟩ := List.getElem_of_mem hf'
    have hi' : i < fs.size := by simpa using hi
    have := hf i _ (Array.getElem?_eq_getElem hi')
    refine ⟨xs[i]'(by omega), ?_⟩
    rw [List.getElem?_eq_getElem (by omega)] at this
    simpa using this
  exact ⟨x, h1, h2⟩
set_option maxRecDepth 100000 in
theorem reads_slice {α : Type} {t e : TypeId} {R : Rep α} {ok : α → Prop} (ht : Try.prog.underlying t = some (.slice e)) (hk : Try.prog.cellsOf e = R.k) (h : ReadsT enc w base held e R ok) : ReadsT enc w base held t (lstR R) (fun l => (∀ x ∈ l, ok x) ∧ l.length ≤ maxLen) := fun n cs y hy => by
  rcases open_slice ht hy with ⟨hcs, _⟩ | ⟨ad, len, cap, m, n', D, Pl, hcs, _, hl, hm, hmm, _, hi⟩
  · exact ⟨[], ⟨none, 0, hcs, lst_none _ _ _⟩, by simp, Nat.zero_le _⟩
  · simp only [if_true] at hmm
    subst hmm
    rw [hk] at hi
    have key : ∀ i, i < len → ∃ (x : α), ok x ∧ ∃ us, R.at_ w (fun b => b < w.heap.size) us x ∧ ∀ j (hj : j < us.length), w.cell? ((ad.add (i * R.k)).add j) = some us[j] := by
      intro i hlt
      obtain ⟨cs', hc, hy'⟩ := hi i (by omega)
      obtain ⟨x, h1, h2⟩ := h _ _ _ hy'
      obtain ⟨_, hl', hat⟩ := World.cells?_some hc
      refine ⟨x, h2, cs', h1, fun j hj => ?_⟩
      rw [hat j (by omega), List.getElem?_eq_getElem hj]
    obtain ⟨b, off, spot⟩ := ad
    rcases Nat.eq_zero_or_pos len with h0 | h0
    · subst h0
      exact ⟨[], ⟨_, _, hcs, Row.nil _ _ _ _, (fun h => by cases h), Nat.zero_le _⟩, by simp, Nat.zero_le _⟩
    · have hs0 : ((⟨b, off, spot⟩ : Addr).add (0 * R.k)).add 0 = ⟨b, off, spot⟩ := by simp [Addr.add]
      obtain ⟨x0, _, us0, ha0, hc0⟩ := key 0 h0
      have hcc := hc0 0 (by rw [R.len ha0]; exact R.pos)
      rw [hs0] at hcc
      have hspot : spot = none := by
        have := World.cell?_spot hcc
        simpa [Addr.add] using this
      subst hspot
      have hblk : b < w.heap.size := by
        have := World.block_lt_of_cell? w _ hcc
        simpa [Addr.add] using this
      refine ⟨(List.range len).map fun i => if h : i < len then Classical.choose (key i h) else x0, ⟨some ⟨b, off, none⟩, _, ?_, ⟨?_, (fun h => by cases h), by simpa using hl⟩⟩, ?_, by simp; omega⟩
      · simpa using hcs
      · intro _
        refine ⟨b, off, rfl, hblk, fun j hj => ?_⟩
        have hj' : j < len := by simpa using hj
        simp only [List.getElem_map, List.getElem_range, hj', dite_true]
        obtain ⟨_, us, h1, h2⟩ := Classical.choose_spec (key j hj')
        generalize Classical.choose (key j hj') = x at *
        refine ⟨us, h1, fun i hi => ?_⟩
        have := h2 i hi
        have e : (Addr.add (Addr.add ⟨b, off, none⟩ (j * R.k)) i) = ⟨b, off + (j * R.k + i), none⟩ := by
          unfold Addr.add
          by_cases q1 : j * R.k = 0 <;> by_cases q2 : i = 0 <;> simp [q1, q2, Nat.add_assoc]
        rw [e] at this
        exact this
      · intro x hx
        obtain ⟨i, hi, rfl⟩ := List.mem_map.1 hx
        have hi' : i < len := by simpa using hi
        simp only [hi', dite_true]
        exact (Classical.choose_spec (key i hi')).1
def IL (l : List Int) : Prop := (∀ x ∈ l, Typ.I64 x) ∧ l.length ≤ maxLen
def BL (l : List Nat) : Prop := l.length ≤ maxLen
def SL (s : ByteArray) : Prop := s.size ≤ maxLen
theorem reads_ints {t : TypeId} (ht : Try.prog.underlying t = some (.slice 3)) : ReadsT enc w base held t (lstR intR) IL := reads_slice ht (by kernel_rfl) (reads_int Try.underlying3)
theorem reads_bytes : ReadsT enc w base held 22 (lstR byteR) BL := fun n cs y hy => by
  obtain ⟨x, h1, h2⟩ := reads_slice (ok := fun _ => True) Try.underlying22 (by kernel_rfl) (reads_byte Try.underlying5) n cs y hy
  exact ⟨x, h1, h2.2⟩
variable {r : Reach} {b0 : Nat} {v : Value} {d : DataW H} {p : List MemPlace}
end
end Go.Proofs.Ytdcolpmmojiffaa.Opn
