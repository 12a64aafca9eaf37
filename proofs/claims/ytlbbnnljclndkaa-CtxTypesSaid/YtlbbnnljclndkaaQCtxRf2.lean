/-
  CtxRf2: ctx.Block; the given Block and Short of layer 9; a context that came in. Conditions: the context lies in memory. (Written by wip/tools/genctxrf2.py.)
-/
import Derived.Test.YtlbbnnljclndkaaQCtxRf1
import Derived.Test.YtlbbnnljclndkaaQModOpen
namespace Go.Proofs.Ytlbbnnljclndkaa.Cx
open Go.RowKit Leb
open _root_.Go.Proofs.Ytlbbnnljclndkaa.Mod

def blkHas (c : GCtx) (t : Int) : Bool := if t = -64 then true else if t = -1 then true else if t = -2 then true else inB t c.types.length
def blkTy (c : GCtx) (t : Int) : GFt := if t = -64 then ([], []) else if t = -1 then ([], [127]) else if t = -2 then ([], [126]) else tyAt c.types t
/-- A type, wherever it lies. -/
def TyAny (w : World) (b : Bool) (x : GFt) (en : Ending) (w' : World) : Prop := ∃ B1 d1 B2 d2, en = .returned (.tuple #[.agg #[.slice B1 x.1.length d1, .slice B2 x.2.length d2], .bool b]) ∧ Lst intR w' (fun _ => True) B1 d1 x.1 ∧ Lst intR w' (fun _ => True) B2 d2 x.2 ∧ Below w.heap.size w w'
theorem TyIs.any {w : World} {b : Bool} {x : GFt} {en : Ending} {w' : World} (h : TyIs w b x en w') : TyAny w b x en w' := by
  obtain ⟨B1, d1, B2, d2, e, h1, h2, hb⟩ := h
  exact ⟨B1, d1, B2, d2, e, h1.keep fun b _ _ => ⟨rfl, trivial⟩, h2.keep fun b _ _ => ⟨rfl, trivial⟩, hb⟩
theorem one_int {w : World} {b : Nat} {n : Int} {t : TypeId} (h : w.heap[b]? = some (.cells #[.int .i64 n] t (0, 0))) : Lst intR w (fun _ => True) (some ⟨b, 0, none⟩) 1 [n] := by
  refine ⟨fun _ => ⟨b, 0, rfl, trivial, fun j hj => ⟨[.int .i64 n], ?_, fun i hi => ?_⟩⟩, (fun e => by cases e), by simp⟩
  · have : j = 0 := by simpa using hj
    subst this; rfl
  · have : j = 0 := by simpa using hj
    subst this
    have hi0 : i = 0 := by simpa using hi
    subst hi0
    rw [blk_cell h]
    rfl
section
variable (q : Plc) (c : GCtx) (w : World) {ok : Nat → Prop}
end
end Go.Proofs.Ytlbbnnljclndkaa.Cx
