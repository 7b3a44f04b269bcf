/-
  DERIVED. GIVEN WITH THE SEED: THE CARDS: each row of YtapjgobkpehgfaaDoorRows.lean that lists a variable, with what it lists TIED to the program's text (the seventh form; the later family's looks); each row that meets fmt, with fmt's text TOLD by the authors' own Lean function (tested against real Go, not proved from fmt's source: count such statements apart). THE CARD IS WHAT COUNTS. Prove the row's statement (the work); the ties are given (YtapjgobkpehgfaaDoorTie.lean); close each card by the builder's one call (the guide's Derived/Test/ToyasCard.lean, 'card_holds'). Laid BY PROGRAM, IN A SANDBOX (cutbox-door.mjs). By AI agents, Wed Nov 11 2026. No macro, syntax, notation, axiom, sorry.
-/
import Derived.Test.YtapjgobkpehgfaaDoorRows
import GoSem.ClaimSeven
namespace Go.Proofs.YtapjgobkpehgfaaDoor
namespace Rows

/-- THE TIED CARD OF 'lockstitchlaw12.PlanSaved'. -/
def planSavedCard : Claim7 := { stood := { row := planSavedRow, standIns := [], harness := (true, "80240b5aad8c5331ca27c4bdf95380abfd0e1e051e50a25d3a53d55b8a7e308d"), looks := false }, kinds := [], alts := [], laidByText := true, laidKinds := [.data], laidTests := true, laidLooks := .later }
def PlanSavedCardSaid : Prop := Claim7.holds Tryd.pinned (.plain (OpenSpec.ofChange planSavedSpec)) planSavedCard

/-- THE SECOND FORM's CARD OF 'lockstitchlaw12.PlanSaved'. -/
def planSavedUptoCard : Claim7 := { stood := { row := planSavedUptoRow, standIns := [], harness := (true, "80240b5aad8c5331ca27c4bdf95380abfd0e1e051e50a25d3a53d55b8a7e308d"), looks := false }, kinds := [], alts := [], laidByText := true, laidKinds := [.data], laidTests := true, laidLooks := .later }
def PlanSavedUptoCardSaid : Prop := Claim7.holds Tryd.pinned (.plain (OpenSpec.upto planSavedSpec)) planSavedUptoCard
end Rows
end Go.Proofs.YtapjgobkpehgfaaDoor
