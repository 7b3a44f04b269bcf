/-
  DERIVED. GIVEN WITH THE SEED: THE CARDS: each row of YtjkpbajojgdooaaDoorRows.lean that lists a variable, with what it lists TIED to the program's text (the seventh form; the later family's looks); each row that meets fmt, with fmt's text TOLD by the authors' own Lean function (tested against real Go, not proved from fmt's source: count such statements apart). THE CARD IS WHAT COUNTS. Prove the row's statement (the work); the ties are given (YtjkpbajojgdooaaDoorTie.lean); close each card by the builder's one call (the guide's Derived/Test/ToyasCard.lean, 'card_holds'). Laid BY PROGRAM, IN A SANDBOX (cutbox-door.mjs). By AI agents, Wed Nov 11 2026. No macro, syntax, notation, axiom, sorry.
-/
import Derived.Test.YtjkpbajojgdooaaDoorRows
import GoSem.ClaimSeven
namespace Go.Proofs.YtjkpbajojgdooaaDoor
namespace Rows

/-- THE TIED CARD OF 'lockstitchlaw11.LeakTrue'. -/
def leakTrueCard : Claim7 := { stood := { row := leakTrueRow, standIns := [], harness := (true, "1e30cb6ec73fea8b3bea413cc79017af0639d232e094842bf0fffd76578e3087"), looks := false }, kinds := [], alts := [], laidByText := true, laidKinds := [.data, .data, .data], laidTests := true, laidLooks := .later }
def LeakTrueCardSaid : Prop := Claim7.holds Tryd.pinned (.plain (OpenSpec.ofChange leakTrueSpec)) leakTrueCard

/-- THE TIED CARD OF 'lockstitchlaw11.LeakNone'. -/
def leakNoneCard : Claim7 := { stood := { row := leakNoneRow, standIns := [], harness := (true, "1e30cb6ec73fea8b3bea413cc79017af0639d232e094842bf0fffd76578e3087"), looks := false }, kinds := [], alts := [], laidByText := true, laidKinds := [.data, .data, .data], laidTests := true, laidLooks := .later }
def LeakNoneCardSaid : Prop := Claim7.holds Tryd.pinned (.plain (OpenSpec.ofChange leakNoneSpec)) leakNoneCard

/-- THE TIED CARD OF 'lockstitchlaw11.LeakTypes'. -/
def leakTypesCard : Claim7 := { stood := { row := leakTypesRow, standIns := [], harness := (true, "1e30cb6ec73fea8b3bea413cc79017af0639d232e094842bf0fffd76578e3087"), looks := false }, kinds := [], alts := [], laidByText := true, laidKinds := [.data, .data, .data], laidTests := true, laidLooks := .later }
def LeakTypesCardSaid : Prop := Claim7.holds Tryd.pinned (.plain (OpenSpec.ofChange leakTypesSpec)) leakTypesCard

/-- THE SECOND FORM's CARD OF 'lockstitchlaw11.LeakTrue'. -/
def leakTrueUptoCard : Claim7 := { stood := { row := leakTrueUptoRow, standIns := [], harness := (true, "1e30cb6ec73fea8b3bea413cc79017af0639d232e094842bf0fffd76578e3087"), looks := false }, kinds := [], alts := [], laidByText := true, laidKinds := [.data, .data, .data], laidTests := true, laidLooks := .later }
def LeakTrueUptoCardSaid : Prop := Claim7.holds Tryd.pinned (.plain (OpenSpec.upto leakTrueSpec)) leakTrueUptoCard

/-- THE SECOND FORM's CARD OF 'lockstitchlaw11.LeakNone'. -/
def leakNoneUptoCard : Claim7 := { stood := { row := leakNoneUptoRow, standIns := [], harness := (true, "1e30cb6ec73fea8b3bea413cc79017af0639d232e094842bf0fffd76578e3087"), looks := false }, kinds := [], alts := [], laidByText := true, laidKinds := [.data, .data, .data], laidTests := true, laidLooks := .later }
def LeakNoneUptoCardSaid : Prop := Claim7.holds Tryd.pinned (.plain (OpenSpec.upto leakNoneSpec)) leakNoneUptoCard

/-- THE SECOND FORM's CARD OF 'lockstitchlaw11.LeakTypes'. -/
def leakTypesUptoCard : Claim7 := { stood := { row := leakTypesUptoRow, standIns := [], harness := (true, "1e30cb6ec73fea8b3bea413cc79017af0639d232e094842bf0fffd76578e3087"), looks := false }, kinds := [], alts := [], laidByText := true, laidKinds := [.data, .data, .data], laidTests := true, laidLooks := .later }
def LeakTypesUptoCardSaid : Prop := Claim7.holds Tryd.pinned (.plain (OpenSpec.upto leakTypesSpec)) leakTypesUptoCard
end Rows
end Go.Proofs.YtjkpbajojgdooaaDoor
