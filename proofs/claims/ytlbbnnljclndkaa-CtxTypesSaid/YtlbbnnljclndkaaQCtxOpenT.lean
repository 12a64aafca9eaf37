/-
  CtxOpenT: A function's type that came in, as two lists of a kind. Conditions as the lemma says.
-/
import Derived.Test.YtlbbnnljclndkaaQModOpen
namespace Go.Proofs.Ytlbbnnljclndkaa.Cx
open _root_.Go.Proofs.Ytlbbnnljclndkaa.Mod
open _root_.Go.Proofs.Ytlbbnnljclndkaa.Opn
open Go.RowKit Leb Go.Joins Go.ChangeShapes Go.WideShapes Go.Deep

section
variable {H : Type} {enc : TypeId × Value → H} {w : World} {base : Nat} {held : Bool}
def FtV (w : World) (v : Value) : Prop := ∃ (t : GFt) (B1 : Option Addr) (b1 : Nat) (B2 : Option Addr) (b2 : Nat), v = .agg #[.slice B1 t.1.length b1, .slice B2 t.2.length b2] ∧ Lst intR w (fun b => b < w.heap.size) B1 b1 t.1 ∧ Lst intR w (fun b => b < w.heap.size) B2 b2 t.2
variable {r : Reach} {b0 : Nat} {v : Value} {d : DataW H} {pl : List MemPlace}
set_option maxRecDepth 100000 in
theorem ftV_of (hv : Value.okWide Try.prog w r b0 46 v) (h : DataW.Trod enc Try.prog w base (fun _ => true) held 46 v d pl) : FtV w v := by
  obtain ⟨cs, rfl, hsz⟩ := okWide_struct Try.underlying46 hv
  obtain ⟨fuel, hf⟩ := h
  obtain ⟨t, h1, _⟩ := reads_ft _ _ _ hf
  obtain ⟨B1, b1, B2, b2, h3, h4, h5⟩ := ftR_at.1 h1
  refine ⟨t, B1, b1, B2, b2, ?_, h4, h5⟩
  simp only [Value.cells] at h3
  rw [← h3]
end
end Go.Proofs.Ytlbbnnljclndkaa.Cx
