/-
  CtxRf3: The given Block and Short of layer 9; types held against each other. Conditions: the context lies in memory. (Written by wip/tools/genctxrf3.py.)
-/
import Derived.Test.YtlbbnnljclndkaaQCtxRf2
import Derived.Test.YtlbbnnljclndkaaQTyp
import Derived.Test.YtlbbnnljclndkaaQIns
namespace Go.Proofs.Ytlbbnnljclndkaa.Cx
open Go.RowKit Leb
open _root_.Go.Proofs.Ytlbbnnljclndkaa.Mod

section
variable (q : Plc) (c : GCtx) (w : World) {ok : Nat → Prop}
def ShC (w : World) (c : GCtx) (en : Ending) (w' : World) : Prop := ∃ b : Bool, en = .returned (.bool b) ∧ (b = true → FtS c ∧ c.types.length ≤ 70 ∧ c.funcs.length ≤ 140) ∧ Below w.heap.size w w'
end
theorem ftype_of {w : World} {ok1 ok2 : Nat → Prop} {A1 : Option Addr} {c1 : Nat} {A2 : Option Addr} {c2 : Nat} {x : GFt} (h1 : Lst intR w ok1 A1 c1 x.1) (h2 : Lst intR w ok2 A2 c2 x.2) : Typ.FType w (.agg #[.slice A1 x.1.length c1, .slice A2 x.2.length c2]) x.1 x.2 := ⟨A1, c1, A2, c2, rfl, h1.ints, h2.ints, h1.room, h2.room, h1.nil, h2.nil⟩
theorem rsame_ft (w : World) {ok1 ok2 ok3 ok4 : Nat → Prop} {A1 : Option Addr} {c1 : Nat} {A2 : Option Addr} {c2 : Nat} {A3 : Option Addr} {c3 : Nat} {A4 : Option Addr} {c4 : Nat} (x y : GFt) (h1 : Lst intR w ok1 A1 c1 x.1) (h2 : Lst intR w ok2 A2 c2 x.2) (h3 : Lst intR w ok3 A3 c3 y.1) (h4 : Lst intR w ok4 A4 c4 y.2) (hx : x.1.length ≤ 100000 ∧ x.2.length ≤ 100000) (hy : y.1.length ≤ 100000 ∧ y.2.length ≤ 100000) : Calls Try.prog 23 #[.agg #[.slice A1 x.1.length c1, .slice A2 x.2.length c2], .agg #[.slice A3 y.1.length c3, .slice A4 y.2.length c4]] w (BoolIs w (decide (x.1 = y.1 ∧ x.2 = y.2))) := Typ.rsame_any _ _ x.1 x.2 y.1 y.2 w (ftype_of h1 h2) (ftype_of h3 h4) (by omega) (by omega) (by omega) (by omega)
end Go.Proofs.Ytlbbnnljclndkaa.Cx
