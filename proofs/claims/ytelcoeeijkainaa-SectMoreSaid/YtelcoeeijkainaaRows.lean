/-
  No cell of these rows narrows 'for every input' (looked for: loops, veiled, ifaces, maps, wideKeys, modest, calm, conditions, laid).
  DERIVED. THE GIVEN ROWS OF THIS SEAT. 4 by the template 'for every input the law returns true; each argument reads behind the call as it read before'; 0 by the template 'total and deterministic' (their statements: YtelcoeeijkainaaTotals.lean).
  GIVEN WITH THE SEED: the statements are not yours to turn. If you find one false, say at which input.
  Laid BY PROGRAM, IN A SANDBOX (cutbox-rows.mjs): the forced cells as the released guide's own fill.sh prints them over the translation a976a5169876a2ac… (all of the seat's roots in one cut). By AI agents, Wed Nov 11 2026. No macro, syntax, notation, axiom, sorry.
-/
import Derived.Test.YtelcoeeijkainaaChecked
import GoSem.Claim
import GoSem.ClaimJoined
import GoSem.ClaimMapViews
import Derived.JoinedTies
import Derived.KernelRfl
namespace Go.Proofs.Ytelcoeeijkainaa
/- THE CELL 'sum', in the pinned program and in every row, IS THE sha256 OF THE DUMP (.gsa) THAT YtelcoeeijkainaaProg.lean LOADS. Nothing in Lean hashes anything: it is a label: what it is worth is what the hold of that sum in a sandbox is worth. -/
noncomputable def Try.pinned : Pinned := { name := "ytelcoeeijkainaa", sum := "a976a5169876a2accc8ca075dcb65539f39907a4ceef4e755c5ca563d7fa70dc", checked := Try.checked }
namespace Rows
def none {H : Type} : Left H := { results := [], args := [] }

/-- 'trammellaw07.SectSplits': WHATEVER THE INPUT: true; the input reads as it did. -/
def sectSplitsSpec : ChangeSpec := { name := "sectSplits", fn := fun _ => fun
  | [d] => { results := [.lit (.bool true)], args := [d] }
  | _ => none }
def sectSplitsRow : OpenClaim := { program := "ytelcoeeijkainaa", sum := "a976a5169876a2accc8ca075dcb65539f39907a4ceef4e755c5ca563d7fa70dc", func := "trammel/trammellaw07.SectSplits", spec := "sectSplits", apart := false }
def SectSplitsSaid : Prop := sectSplitsRow.holds Try.pinned (OpenSpec.ofChange sectSplitsSpec)

/-- ITS FALSE NEIGHBOUR: 'it returns false'. Refute it at one input. -/
def sectSplitsWrong : ChangeSpec := { name := "sectSplits", fn := fun _ => fun
  | [d] => { results := [.lit (.bool false)], args := [d] }
  | _ => none }
def SectSplitsWrongFalsely : Prop := sectSplitsRow.holds Try.pinned (OpenSpec.ofChange sectSplitsWrong)

/-- 'trammellaw07.SectJoins': WHATEVER THE INPUT: true; the input reads as it did. -/
def sectJoinsSpec : ChangeSpec := { name := "sectJoins", fn := fun _ => fun
  | [d] => { results := [.lit (.bool true)], args := [d] }
  | _ => none }
def sectJoinsRow : OpenClaim := { program := "ytelcoeeijkainaa", sum := "a976a5169876a2accc8ca075dcb65539f39907a4ceef4e755c5ca563d7fa70dc", func := "trammel/trammellaw07.SectJoins", spec := "sectJoins", apart := false }
def SectJoinsSaid : Prop := sectJoinsRow.holds Try.pinned (OpenSpec.ofChange sectJoinsSpec)

/-- ITS FALSE NEIGHBOUR: 'it returns false'. Refute it at one input. -/
def sectJoinsWrong : ChangeSpec := { name := "sectJoins", fn := fun _ => fun
  | [d] => { results := [.lit (.bool false)], args := [d] }
  | _ => none }
def SectJoinsWrongFalsely : Prop := sectJoinsRow.holds Try.pinned (OpenSpec.ofChange sectJoinsWrong)

/-- 'trammellaw07.SectCut': WHATEVER THE INPUT: true; the input reads as it did. -/
def sectCutSpec : ChangeSpec := { name := "sectCut", fn := fun _ => fun
  | [d1, d2] => { results := [.lit (.bool true)], args := [d1, d2] }
  | _ => none }
def sectCutRow : OpenClaim := { program := "ytelcoeeijkainaa", sum := "a976a5169876a2accc8ca075dcb65539f39907a4ceef4e755c5ca563d7fa70dc", func := "trammel/trammellaw07.SectCut", spec := "sectCut", apart := false }
def SectCutSaid : Prop := sectCutRow.holds Try.pinned (OpenSpec.ofChange sectCutSpec)

/-- ITS FALSE NEIGHBOUR: 'it returns false'. Refute it at one input. -/
def sectCutWrong : ChangeSpec := { name := "sectCut", fn := fun _ => fun
  | [d1, d2] => { results := [.lit (.bool false)], args := [d1, d2] }
  | _ => none }
def SectCutWrongFalsely : Prop := sectCutRow.holds Try.pinned (OpenSpec.ofChange sectCutWrong)

/-- 'trammellaw07.SectMore': WHATEVER THE INPUT: true; the input reads as it did. -/
def sectMoreSpec : ChangeSpec := { name := "sectMore", fn := fun _ => fun
  | [d1, d2, d3] => { results := [.lit (.bool true)], args := [d1, d2, d3] }
  | _ => none }
def sectMoreRow : OpenClaim := { program := "ytelcoeeijkainaa", sum := "a976a5169876a2accc8ca075dcb65539f39907a4ceef4e755c5ca563d7fa70dc", func := "trammel/trammellaw07.SectMore", spec := "sectMore", apart := false }
def SectMoreSaid : Prop := sectMoreRow.holds Try.pinned (OpenSpec.ofChange sectMoreSpec)

/-- ITS FALSE NEIGHBOUR: 'it returns false'. Refute it at one input. -/
def sectMoreWrong : ChangeSpec := { name := "sectMore", fn := fun _ => fun
  | [d1, d2, d3] => { results := [.lit (.bool false)], args := [d1, d2, d3] }
  | _ => none }
def SectMoreWrongFalsely : Prop := sectMoreRow.holds Try.pinned (OpenSpec.ofChange sectMoreWrong)

/- THE SECOND FORM. 'bulk': how many values and letters a reading holds, each counted each time it is reached (what is shared counts as often as it is met; a slice's spare places count too). A statement '..UptoSaid' is the law's where the arguments, and the package variables that the reading takes, are together of bulk at most 1048576: NARROWER than '..Said'. Prove '..Said' where nothing that the law and all that it calls make is longer than what came in: it says more and counts as full. Else prove '..UptoSaid'. A law counts once. -/
mutual
def uptoBulk {H : Type} : DataW H → Nat
  | .lit (.string bytes) => bytes.length + 1
  | .lit _ => 1
  | .nil => 1
  | .ptr d => uptoBulk d + 1
  | .slice elems spare => uptoBulkAll elems + uptoBulkAll spare + 1
  | .agg parts => uptoBulkAll parts + 1
  | .iface _ d => uptoBulk d + 1
  | .map entries => uptoBulkEntries entries + 1
  | .held _ => 1
def uptoBulkAll {H : Type} : List (DataW H) → Nat
  | [] => 0
  | d :: r => uptoBulk d + uptoBulkAll r
def uptoBulkEntries {H : Type} : List (Lit × DataW H) → Nat
  | [] => 0
  | x :: r => uptoBulkEntry x + uptoBulkEntries r
def uptoBulkEntry {H : Type} : Lit × DataW H → Nat
  | (.string bytes, d) => bytes.length + uptoBulk d + 1
  | (_, d) => uptoBulk d + 1
 end
def uptoSmall : (H : Type) → List (DataW H) → Bool := fun _ ds => decide (uptoBulkAll ds ≤ 1048576)
def OpenSpec.upto (s : _root_.Go.ChangeSpec) : _root_.Go.OpenSpec := { _root_.Go.OpenSpec.ofChange s with cond := some uptoSmall }

/-- 'trammellaw07.SectSplits', WHERE WHAT IT READS IS OF BULK AT MOST 1048576: true; the input reads as it did. -/
def sectSplitsUptoRow : OpenClaim := { program := "ytelcoeeijkainaa", sum := "a976a5169876a2accc8ca075dcb65539f39907a4ceef4e755c5ca563d7fa70dc", func := "trammel/trammellaw07.SectSplits", spec := "sectSplits", apart := false, narrowed := true }
def SectSplitsUptoSaid : Prop := sectSplitsUptoRow.holds Try.pinned (OpenSpec.upto sectSplitsSpec)

/-- 'trammellaw07.SectJoins', WHERE WHAT IT READS IS OF BULK AT MOST 1048576: true; the input reads as it did. -/
def sectJoinsUptoRow : OpenClaim := { program := "ytelcoeeijkainaa", sum := "a976a5169876a2accc8ca075dcb65539f39907a4ceef4e755c5ca563d7fa70dc", func := "trammel/trammellaw07.SectJoins", spec := "sectJoins", apart := false, narrowed := true }
def SectJoinsUptoSaid : Prop := sectJoinsUptoRow.holds Try.pinned (OpenSpec.upto sectJoinsSpec)

/-- 'trammellaw07.SectCut', WHERE WHAT IT READS IS OF BULK AT MOST 1048576: true; the input reads as it did. -/
def sectCutUptoRow : OpenClaim := { program := "ytelcoeeijkainaa", sum := "a976a5169876a2accc8ca075dcb65539f39907a4ceef4e755c5ca563d7fa70dc", func := "trammel/trammellaw07.SectCut", spec := "sectCut", apart := false, narrowed := true }
def SectCutUptoSaid : Prop := sectCutUptoRow.holds Try.pinned (OpenSpec.upto sectCutSpec)

/-- 'trammellaw07.SectMore', WHERE WHAT IT READS IS OF BULK AT MOST 1048576: true; the input reads as it did. -/
def sectMoreUptoRow : OpenClaim := { program := "ytelcoeeijkainaa", sum := "a976a5169876a2accc8ca075dcb65539f39907a4ceef4e755c5ca563d7fa70dc", func := "trammel/trammellaw07.SectMore", spec := "sectMore", apart := false, narrowed := true }
def SectMoreUptoSaid : Prop := sectMoreUptoRow.holds Try.pinned (OpenSpec.upto sectMoreSpec)

end Rows
end Go.Proofs.Ytelcoeeijkainaa
