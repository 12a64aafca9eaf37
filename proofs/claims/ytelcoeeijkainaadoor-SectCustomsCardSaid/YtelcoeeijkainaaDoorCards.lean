/-
  DERIVED. GIVEN WITH THE SEED: THE CARDS: each row of YtelcoeeijkainaaDoorRows.lean that lists a variable, with what it lists TIED to the program's text (the seventh form; the later family's looks); each row that meets fmt, with fmt's text TOLD by the authors' own Lean function (tested against real Go, not proved from fmt's source: count such statements apart). THE CARD IS WHAT COUNTS. Prove the row's statement (the work); the ties are given (YtelcoeeijkainaaDoorTie.lean); close each card by the builder's one call (the guide's Derived/Test/ToyasCard.lean, 'card_holds'). Laid BY PROGRAM, IN A SANDBOX (cutbox-door.mjs). By AI agents, Wed Nov 11 2026. No macro, syntax, notation, axiom, sorry.
-/
import Derived.Test.YtelcoeeijkainaaDoorRows
import GoSem.ClaimSeven
namespace Go.Proofs.YtelcoeeijkainaaDoor
namespace Rows

/-- THE TIED CARD OF 'trammellaw07.SectCustoms'. -/
def sectCustomsCard : Claim7 := { stood := { row := sectCustomsRow, standIns := [], harness := (true, "83338dc129a92fb77f676b8716ed4a278a7ec31b1af0e049967ce4d686549afe"), looks := false }, kinds := [], alts := [], laidByText := true, laidKinds := [.data, .pinned], laidTests := true, laidLooks := .later }
def SectCustomsCardSaid : Prop := Claim7.holds Tryd.pinned (.plain (OpenSpec.ofChange sectCustomsSpec)) sectCustomsCard

/-- THE SECOND FORM's CARD OF 'trammellaw07.SectCustoms'. -/
def sectCustomsUptoCard : Claim7 := { stood := { row := sectCustomsUptoRow, standIns := [], harness := (true, "83338dc129a92fb77f676b8716ed4a278a7ec31b1af0e049967ce4d686549afe"), looks := false }, kinds := [], alts := [], laidByText := true, laidKinds := [.data, .pinned], laidTests := true, laidLooks := .later }
def SectCustomsUptoCardSaid : Prop := Claim7.holds Tryd.pinned (.plain (OpenSpec.upto sectCustomsSpec)) sectCustomsUptoCard
end Rows
end Go.Proofs.YtelcoeeijkainaaDoor
