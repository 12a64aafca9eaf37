/-
  StoOpen: A store that came in. Conditions as each lemma says.
-/
import Derived.Test.YtdcolpmmojiffaaQStoDoes
import Derived.Test.YtdcolpmmojiffaaQModOpen
namespace Go.Proofs.Ytdcolpmmojiffaa.Sto
open _root_.Go.Proofs.Ytdcolpmmojiffaa.Mod
open _root_.Go.Proofs.Ytdcolpmmojiffaa.Opn
open Typ (Ints)
open Go.RowKit Leb Go.Joins Go.ChangeShapes Go.WideShapes Go.Deep

def u64R : Rep Nat := oneR fun n => .int .u64 (n : Int)
def stR : Rep GSt := mapR (fun g : GSt => (g.mem, g.cap, g.tab, g.glo, g.els, g.dat)) (seqR (lstR byteR) (seqR intR (seqR (lstR intR) (seqR (lstR u64R) (seqR (lstR boolR) (lstR boolR))))))
theorem stR_at {w : World} {ok : Nat → Prop} {vs : List Value} {g : GSt} (h : stR.at_ w ok vs g) : ∃ p : PSt, vSt p g = .agg vs.toArray ∧ Lst byteR w ok p.A0 p.c0 g.mem ∧ Lst intR w ok p.A2 p.c2 g.tab ∧ Lst u64R w ok p.A3 p.c3 g.glo ∧ Lst boolR w ok p.A4 p.c4 g.els ∧ Lst boolR w ok p.A5 p.c5 g.dat := by
  obtain ⟨u0, v0, rfl, ⟨A0, c0, rfl, h0⟩, u1, v1, rfl, h1, u2, v2, rfl, ⟨A2, c2, rfl, h2⟩, u3, v3, rfl, ⟨A3, c3, rfl, h3⟩, u4, v4, rfl, ⟨A4, c4, rfl, h4⟩, A5, c5, rfl, h5⟩ := h
  obtain rfl : u1 = [.int .i64 g.cap] := h1
  exact ⟨⟨A0, c0, A2, c2, A3, c3, A4, c4, A5, c5⟩, rfl, h0, h2, h3, h4, h5⟩
theorem lst_cells {α : Type} {R : Rep α} {v : α → Value} (hk : R.k = 1) (hat : ∀ {w ok us x}, R.at_ w ok us x → us = [v x]) {w : World} {A : Option Addr} {c : Nat} {l : List α} (h : Lst R w (fun b => b < w.heap.size) A c l) :
    0 < l.length → ∃ b off, A = some ⟨b, off, none⟩ ∧ b < w.heap.size ∧ ∀ (j : Nat) (h : j < l.length), w.cell? ⟨b, off + j, none⟩ = some (v l[j]) := fun hl => by
  obtain ⟨b, off, e, hb, hc⟩ := h.row hl
  refine ⟨b, off, e, hb, fun j hj => ?_⟩
  obtain ⟨us, h1, h2⟩ := hc j hj
  obtain rfl := hat h1
  have := h2 0 (by simp)
  rw [hk, Nat.mul_one, Nat.add_zero] at this
  exact this
section
variable {H : Type} {enc : TypeId × Value → H} {w : World} {base : Nat} {held : Bool}
theorem reads_u64 {t : TypeId} (ht : Try.prog.underlying t = some (.int .u64)) : ReadsT enc w base held t u64R (fun _ => True) := fun n cs y h => by
  obtain ⟨a, rfl, _, hw⟩ := DataW.trod_int ht h
  have hb := bounds_u64 hw
  refine ⟨a.toNat, ?_, trivial⟩
  show [Value.int .u64 a] = [Value.int .u64 ((a.toNat : Nat) : Int)]
  rw [Int.toNat_of_nonneg hb.1]
set_option maxRecDepth 100000 in
theorem reads_st : ReadsT enc w base held 27 stR (fun _ => True) := by
  refine reads_map (α := List Nat × Int × List Int × List Nat × List Bool × List Bool) _ (fun q => ⟨q.1, q.2.1, q.2.2.1, q.2.2.2.1, q.2.2.2.2.1, q.2.2.2.2.2⟩)
    (reads_struct Try.underlying27 (by kernel_rfl) (readsF_cons reads_bytes rfl (by kernel_rfl) (readsF_cons (reads_int Try.underlying3) rfl (by kernel_rfl) (readsF_cons (reads_ints Try.underlying23) rfl (by kernel_rfl) (readsF_cons (reads_slice Try.underlying24 (by kernel_rfl) (reads_u64 Try.underlying28)) rfl (by kernel_rfl) (readsF_cons (reads_slice Try.underlying25 (by kernel_rfl) (reads_bool Try.underlying4)) rfl (by kernel_rfl) (readsF_one (reads_slice Try.underlying25 (by kernel_rfl) (reads_bool Try.underlying4)) rfl (by kernel_rfl))))))))
    (fun _ => rfl) fun _ _ => trivial
def StIn (w : World) (v : Value) : Prop := ∃ (p : PSt) (g : GSt), v = vSt p g ∧ StF w w.heap.size p g
variable {r : Reach} {b0 : Nat} {v : Value} {d : DataW H} {pl : List MemPlace}
set_option maxRecDepth 100000 in
theorem stIn_of (hv : Value.okWide Try.prog w r b0 27 v) (h : DataW.Trod enc Try.prog w base (fun _ => true) held 27 v d pl) : StIn w v := by
  obtain ⟨cs, rfl, hsz⟩ := okWide_struct Try.underlying27 hv
  obtain ⟨fuel, hf⟩ := h
  obtain ⟨g, h1, -⟩ := reads_st _ _ _ hf
  obtain ⟨p, h3, h0, h2, h4, h5, h6⟩ := stR_at h1
  have q2 : Ints w w.heap.size p.A2 g.tab := lst_cells (R := intR) (v := Typ.iv) rfl (fun h => h) h2
  have q4 : Nums w w.heap.size p.A3 g.glo := lst_cells (R := u64R) (v := fun n => .int .u64 (n : Int)) rfl (fun h => h) h4
  have q5 : Bools w w.heap.size p.A4 g.els := lst_cells (R := boolR) (v := .bool) rfl (fun h => h) h5
  have q6 : Bools w w.heap.size p.A5 g.dat := lst_cells (R := boolR) (v := .bool) rfl (fun h => h) h6
  refine ⟨p, g, ?_, ⟨⟨h0.bytes, q2, q4, q5, q6⟩, ⟨h0.room, h2.room, h4.room, h5.room, h6.room, h0.nil, h2.nil, h4.nil, h5.nil, h6.nil⟩⟩⟩
  rw [h3]
  rfl
end
end Go.Proofs.Ytdcolpmmojiffaa.Sto
