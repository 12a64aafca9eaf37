/-
  ModSeg: Readers in plain words: a segment of data, a segment of the table: in each form they may be read in, put in one. No condition; nothing of the program.
-/
import Derived.Test.YtdcolpmmojiffaaQModThing
namespace Go.Proofs.Ytdcolpmmojiffaa.Mod
open Go.RowKit Leb

theorem reads_map {α β : Type} {p : Par α} {putA : α → List Nat} {okA : α → Prop} (g : α → β) (can : β → α) (okB : β → Prop) (hp : Reads p putA okA) (hcan : ∀ b, okB b → okA (can b) ∧ g (can b) = b) (hle : ∀ a, okA a → okB (g a) ∧ (putA (can (g a))).length ≤ (putA a).length) :
    Reads (bnd p fun a => pur (g a)) (fun b => putA (can b)) okB := by
  refine ⟨fun b more h => ?_, fun l b n hl h => ?_, fun b h y hy => hp.byte _ (hcan b h).1 y hy⟩
  · obtain ⟨h1, h2⟩ := hcan b h
    have h3 := bnd_mk (f := fun a => pur (g a)) (b := g (can b)) (s' := 0) (hp.back (can b) more h1) rfl
    rw [h2] at h3
    exact h3
  · obtain ⟨a, s, s', h1, h2, rfl⟩ := bnd_ok h
    simp only [pur, Except.ok.injEq, Prod.mk.injEq] at h2
    obtain ⟨rfl, rfl⟩ := h2
    obtain ⟨k1, k2⟩ := hp.taken l a s hl h1
    obtain ⟨k3, k4⟩ := hle a k1
    exact ⟨k3, by omega⟩
def zeroP : Par Unit := bnd num fun t => if t ≠ 0 then err 3 else pur ()
end Go.Proofs.Ytdcolpmmojiffaa.Mod
