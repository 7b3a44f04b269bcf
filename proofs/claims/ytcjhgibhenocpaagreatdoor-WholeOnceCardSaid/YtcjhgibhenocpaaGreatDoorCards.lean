/-
  DERIVED. GIVEN WITH THE SEED: THE CARDS: each row of YtcjhgibhenocpaaGreatDoorRows.lean that lists a variable, with what it lists TIED to the program's text (the seventh form; the later family's looks); each row that meets fmt, with fmt's text TOLD by the authors' own Lean function (tested against real Go, not proved from fmt's source: count such statements apart). THE CARD IS WHAT COUNTS. Prove the row's statement (the work); the ties are given (YtcjhgibhenocpaaGreatDoorTie.lean); close each card by the builder's one call (the guide's Derived/Test/ToyasCard.lean, 'card_holds'). Laid BY PROGRAM, IN A SANDBOX (cutbox-door.mjs). By AI agents, Wed Nov 11 2026. No macro, syntax, notation, axiom, sorry.
-/
import Derived.Test.YtcjhgibhenocpaaGreatDoorRows
import GoSem.ClaimSeven
namespace Go.Proofs.YtcjhgibhenocpaaGreatDoor
namespace Rows

/-- THE TIED CARD OF 'lockstitchtop.WholeText'. -/
def wholeTextCard : Claim7 := { stood := { row := wholeTextRow, standIns := [], harness := (true, "32f850384b0fbbb34bcef6f4d3fced0a367c5fbb1f13df84e88e435345aed0da"), looks := true }, kinds := [], alts := [], laidByText := true, laidKinds := [.data, .data, .data, .data, .sentinel, .sentinel, .data, .pinned], laidTests := true, laidLooks := .later }
def WholeTextCardSaid : Prop := Claim7.holds Tryz.pinned (.plain (OpenSpec.ofChange wholeTextSpec)) wholeTextCard

/-- THE TIED CARD OF 'lockstitchtop.WholeOnce'. -/
def wholeOnceCard : Claim7 := { stood := { row := wholeOnceRow, standIns := [], harness := (true, "32f850384b0fbbb34bcef6f4d3fced0a367c5fbb1f13df84e88e435345aed0da"), looks := true }, kinds := [], alts := [], laidByText := true, laidKinds := [.data, .data, .data, .data, .sentinel, .sentinel, .data, .pinned], laidTests := true, laidLooks := .later }
def WholeOnceCardSaid : Prop := Claim7.holds Tryz.pinned (.plain (OpenSpec.ofChange wholeOnceSpec)) wholeOnceCard

/-- THE SECOND FORM's CARD OF 'lockstitchtop.WholeText'. -/
def wholeTextUptoCard : Claim7 := { stood := { row := wholeTextUptoRow, standIns := [], harness := (true, "32f850384b0fbbb34bcef6f4d3fced0a367c5fbb1f13df84e88e435345aed0da"), looks := true }, kinds := [], alts := [], laidByText := true, laidKinds := [.data, .data, .data, .data, .sentinel, .sentinel, .data, .pinned], laidTests := true, laidLooks := .later }
def WholeTextUptoCardSaid : Prop := Claim7.holds Tryz.pinned (.plain (OpenSpec.upto wholeTextSpec)) wholeTextUptoCard

/-- THE SECOND FORM's CARD OF 'lockstitchtop.WholeOnce'. -/
def wholeOnceUptoCard : Claim7 := { stood := { row := wholeOnceUptoRow, standIns := [], harness := (true, "32f850384b0fbbb34bcef6f4d3fced0a367c5fbb1f13df84e88e435345aed0da"), looks := true }, kinds := [], alts := [], laidByText := true, laidKinds := [.data, .data, .data, .data, .sentinel, .sentinel, .data, .pinned], laidTests := true, laidLooks := .later }
def WholeOnceUptoCardSaid : Prop := Claim7.holds Tryz.pinned (.plain (OpenSpec.upto wholeOnceSpec)) wholeOnceUptoCard
end Rows
end Go.Proofs.YtcjhgibhenocpaaGreatDoor
