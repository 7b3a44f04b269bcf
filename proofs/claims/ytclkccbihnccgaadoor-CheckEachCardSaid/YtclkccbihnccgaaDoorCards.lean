/-
  DERIVED. GIVEN WITH THE SEED: THE CARDS: each row of YtclkccbihnccgaaDoorRows.lean that lists a variable, with what it lists TIED to the program's text (the seventh form; the later family's looks); each row that meets fmt, with fmt's text TOLD by the authors' own Lean function (tested against real Go, not proved from fmt's source: count such statements apart). THE CARD IS WHAT COUNTS. Prove the row's statement (the work); the ties are given (YtclkccbihnccgaaDoorTie.lean); close each card by the builder's one call (the guide's Derived/Test/ToyasCard.lean, 'card_holds'). Laid BY PROGRAM, IN A SANDBOX (cutbox-door.mjs). By AI agents, Wed Nov 11 2026. No macro, syntax, notation, axiom, sorry.
-/
import Derived.Test.YtclkccbihnccgaaDoorRows
import GoSem.ClaimSeven
namespace Go.Proofs.YtclkccbihnccgaaDoor
namespace Rows

/-- THE TIED CARD OF 'lockstitchlaw05.CheckFirst'. -/
def checkFirstCard : Claim7 := { stood := { row := checkFirstRow, standIns := [], harness := (true, "2b084154f410d5455b1ad25b0442e77544a398cc3869028949cedd7dbc80b926"), looks := false }, kinds := [], alts := [], laidByText := true, laidKinds := [.data], laidTests := true, laidLooks := .later }
def CheckFirstCardSaid : Prop := Claim7.holds Tryd.pinned (.plain (OpenSpec.ofChange checkFirstSpec)) checkFirstCard

/-- THE TIED CARD OF 'lockstitchlaw05.CheckFewer'. -/
def checkFewerCard : Claim7 := { stood := { row := checkFewerRow, standIns := [], harness := (true, "2b084154f410d5455b1ad25b0442e77544a398cc3869028949cedd7dbc80b926"), looks := false }, kinds := [], alts := [], laidByText := true, laidKinds := [.data], laidTests := true, laidLooks := .later }
def CheckFewerCardSaid : Prop := Claim7.holds Tryd.pinned (.plain (OpenSpec.ofChange checkFewerSpec)) checkFewerCard

/-- THE TIED CARD OF 'lockstitchlaw05.CheckNames'. -/
def checkNamesCard : Claim7 := { stood := { row := checkNamesRow, standIns := [], harness := (true, "2b084154f410d5455b1ad25b0442e77544a398cc3869028949cedd7dbc80b926"), looks := false }, kinds := [], alts := [], laidByText := true, laidKinds := [.data], laidTests := true, laidLooks := .later }
def CheckNamesCardSaid : Prop := Claim7.holds Tryd.pinned (.plain (OpenSpec.ofChange checkNamesSpec)) checkNamesCard

/-- THE TIED CARD OF 'lockstitchlaw05.CheckEach'. -/
def checkEachCard : Claim7 := { stood := { row := checkEachRow, standIns := [], harness := (true, "2b084154f410d5455b1ad25b0442e77544a398cc3869028949cedd7dbc80b926"), looks := false }, kinds := [], alts := [], laidByText := true, laidKinds := [.data], laidTests := true, laidLooks := .later }
def CheckEachCardSaid : Prop := Claim7.holds Tryd.pinned (.plain (OpenSpec.ofChange checkEachSpec)) checkEachCard

/-- THE TIED CARD OF 'lockstitchlaw05.CheckNeeds'. -/
def checkNeedsCard : Claim7 := { stood := { row := checkNeedsRow, standIns := [], harness := (true, "2b084154f410d5455b1ad25b0442e77544a398cc3869028949cedd7dbc80b926"), looks := false }, kinds := [], alts := [], laidByText := true, laidKinds := [.data], laidTests := true, laidLooks := .later }
def CheckNeedsCardSaid : Prop := Claim7.holds Tryd.pinned (.plain (OpenSpec.ofChange checkNeedsSpec)) checkNeedsCard

/-- THE SECOND FORM's CARD OF 'lockstitchlaw05.CheckFirst'. -/
def checkFirstUptoCard : Claim7 := { stood := { row := checkFirstUptoRow, standIns := [], harness := (true, "2b084154f410d5455b1ad25b0442e77544a398cc3869028949cedd7dbc80b926"), looks := false }, kinds := [], alts := [], laidByText := true, laidKinds := [.data], laidTests := true, laidLooks := .later }
def CheckFirstUptoCardSaid : Prop := Claim7.holds Tryd.pinned (.plain (OpenSpec.upto checkFirstSpec)) checkFirstUptoCard

/-- THE SECOND FORM's CARD OF 'lockstitchlaw05.CheckFewer'. -/
def checkFewerUptoCard : Claim7 := { stood := { row := checkFewerUptoRow, standIns := [], harness := (true, "2b084154f410d5455b1ad25b0442e77544a398cc3869028949cedd7dbc80b926"), looks := false }, kinds := [], alts := [], laidByText := true, laidKinds := [.data], laidTests := true, laidLooks := .later }
def CheckFewerUptoCardSaid : Prop := Claim7.holds Tryd.pinned (.plain (OpenSpec.upto checkFewerSpec)) checkFewerUptoCard

/-- THE SECOND FORM's CARD OF 'lockstitchlaw05.CheckNames'. -/
def checkNamesUptoCard : Claim7 := { stood := { row := checkNamesUptoRow, standIns := [], harness := (true, "2b084154f410d5455b1ad25b0442e77544a398cc3869028949cedd7dbc80b926"), looks := false }, kinds := [], alts := [], laidByText := true, laidKinds := [.data], laidTests := true, laidLooks := .later }
def CheckNamesUptoCardSaid : Prop := Claim7.holds Tryd.pinned (.plain (OpenSpec.upto checkNamesSpec)) checkNamesUptoCard

/-- THE SECOND FORM's CARD OF 'lockstitchlaw05.CheckEach'. -/
def checkEachUptoCard : Claim7 := { stood := { row := checkEachUptoRow, standIns := [], harness := (true, "2b084154f410d5455b1ad25b0442e77544a398cc3869028949cedd7dbc80b926"), looks := false }, kinds := [], alts := [], laidByText := true, laidKinds := [.data], laidTests := true, laidLooks := .later }
def CheckEachUptoCardSaid : Prop := Claim7.holds Tryd.pinned (.plain (OpenSpec.upto checkEachSpec)) checkEachUptoCard

/-- THE SECOND FORM's CARD OF 'lockstitchlaw05.CheckNeeds'. -/
def checkNeedsUptoCard : Claim7 := { stood := { row := checkNeedsUptoRow, standIns := [], harness := (true, "2b084154f410d5455b1ad25b0442e77544a398cc3869028949cedd7dbc80b926"), looks := false }, kinds := [], alts := [], laidByText := true, laidKinds := [.data], laidTests := true, laidLooks := .later }
def CheckNeedsUptoCardSaid : Prop := Claim7.holds Tryd.pinned (.plain (OpenSpec.upto checkNeedsSpec)) checkNeedsUptoCard
end Rows
end Go.Proofs.YtclkccbihnccgaaDoor
