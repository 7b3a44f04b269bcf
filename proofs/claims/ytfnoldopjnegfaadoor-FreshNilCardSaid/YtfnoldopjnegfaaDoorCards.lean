/-
  DERIVED. GIVEN WITH THE SEED: THE CARDS: each row of YtfnoldopjnegfaaDoorRows.lean that lists a variable, with what it lists TIED to the program's text (the seventh form; the later family's looks); each row that meets fmt, with fmt's text TOLD by the authors' own Lean function (tested against real Go, not proved from fmt's source: count such statements apart). THE CARD IS WHAT COUNTS. Prove the row's statement (the work); the ties are given (YtfnoldopjnegfaaDoorTie.lean); close each card by the builder's one call (the guide's Derived/Test/ToyasCard.lean, 'card_holds'). Laid BY PROGRAM, IN A SANDBOX (cutbox-door.mjs). By AI agents, Wed Nov 11 2026. No macro, syntax, notation, axiom, sorry.
-/
import Derived.Test.YtfnoldopjnegfaaDoorRows
import GoSem.ClaimSeven
namespace Go.Proofs.YtfnoldopjnegfaaDoor
namespace Rows

/-- THE TIED CARD OF 'lockstitchlaw09.FreshTells'. -/
def freshTellsCard : Claim7 := { stood := { row := freshTellsRow, standIns := [], harness := (true, "5d1c23a790543c66f8b0a84a6f34c78014e2e13eb21caa071920aae16148e4d5"), looks := false }, kinds := [], alts := [], laidByText := true, laidKinds := [.data, .data, .data], laidTests := true, laidLooks := .later }
def FreshTellsCardSaid : Prop := Claim7.holds Tryd.pinned (.plain (OpenSpec.ofChange freshTellsSpec)) freshTellsCard

/-- THE TIED CARD OF 'lockstitchlaw09.FreshTrue'. -/
def freshTrueCard : Claim7 := { stood := { row := freshTrueRow, standIns := [], harness := (true, "5d1c23a790543c66f8b0a84a6f34c78014e2e13eb21caa071920aae16148e4d5"), looks := false }, kinds := [], alts := [], laidByText := true, laidKinds := [.data, .data, .data], laidTests := true, laidLooks := .later }
def FreshTrueCardSaid : Prop := Claim7.holds Tryd.pinned (.plain (OpenSpec.ofChange freshTrueSpec)) freshTrueCard

/-- THE TIED CARD OF 'lockstitchlaw09.FreshMeets'. -/
def freshMeetsCard : Claim7 := { stood := { row := freshMeetsRow, standIns := [], harness := (true, "5d1c23a790543c66f8b0a84a6f34c78014e2e13eb21caa071920aae16148e4d5"), looks := false }, kinds := [], alts := [], laidByText := true, laidKinds := [.data, .data, .data], laidTests := true, laidLooks := .later }
def FreshMeetsCardSaid : Prop := Claim7.holds Tryd.pinned (.plain (OpenSpec.ofChange freshMeetsSpec)) freshMeetsCard

/-- THE TIED CARD OF 'lockstitchlaw09.FreshMore'. -/
def freshMoreCard : Claim7 := { stood := { row := freshMoreRow, standIns := [], harness := (true, "5d1c23a790543c66f8b0a84a6f34c78014e2e13eb21caa071920aae16148e4d5"), looks := false }, kinds := [], alts := [], laidByText := true, laidKinds := [.data, .data, .data], laidTests := true, laidLooks := .later }
def FreshMoreCardSaid : Prop := Claim7.holds Tryd.pinned (.plain (OpenSpec.ofChange freshMoreSpec)) freshMoreCard

/-- THE TIED CARD OF 'lockstitchlaw09.FreshSafe'. -/
def freshSafeCard : Claim7 := { stood := { row := freshSafeRow, standIns := [], harness := (true, "5d1c23a790543c66f8b0a84a6f34c78014e2e13eb21caa071920aae16148e4d5"), looks := false }, kinds := [], alts := [], laidByText := true, laidKinds := [.data, .data, .data], laidTests := true, laidLooks := .later }
def FreshSafeCardSaid : Prop := Claim7.holds Tryd.pinned (.plain (OpenSpec.ofChange freshSafeSpec)) freshSafeCard

/-- THE TIED CARD OF 'lockstitchlaw09.FreshOthers'. -/
def freshOthersCard : Claim7 := { stood := { row := freshOthersRow, standIns := [], harness := (true, "5d1c23a790543c66f8b0a84a6f34c78014e2e13eb21caa071920aae16148e4d5"), looks := false }, kinds := [], alts := [], laidByText := true, laidKinds := [.data, .data, .data], laidTests := true, laidLooks := .later }
def FreshOthersCardSaid : Prop := Claim7.holds Tryd.pinned (.plain (OpenSpec.ofChange freshOthersSpec)) freshOthersCard

/-- THE TIED CARD OF 'lockstitchlaw09.FreshNil'. -/
def freshNilCard : Claim7 := { stood := { row := freshNilRow, standIns := [], harness := (true, "5d1c23a790543c66f8b0a84a6f34c78014e2e13eb21caa071920aae16148e4d5"), looks := false }, kinds := [], alts := [], laidByText := true, laidKinds := [.data, .data, .data], laidTests := true, laidLooks := .later }
def FreshNilCardSaid : Prop := Claim7.holds Tryd.pinned (.plain (OpenSpec.ofChange freshNilSpec)) freshNilCard

/-- THE SECOND FORM's CARD OF 'lockstitchlaw09.FreshTells'. -/
def freshTellsUptoCard : Claim7 := { stood := { row := freshTellsUptoRow, standIns := [], harness := (true, "5d1c23a790543c66f8b0a84a6f34c78014e2e13eb21caa071920aae16148e4d5"), looks := false }, kinds := [], alts := [], laidByText := true, laidKinds := [.data, .data, .data], laidTests := true, laidLooks := .later }
def FreshTellsUptoCardSaid : Prop := Claim7.holds Tryd.pinned (.plain (OpenSpec.upto freshTellsSpec)) freshTellsUptoCard

/-- THE SECOND FORM's CARD OF 'lockstitchlaw09.FreshTrue'. -/
def freshTrueUptoCard : Claim7 := { stood := { row := freshTrueUptoRow, standIns := [], harness := (true, "5d1c23a790543c66f8b0a84a6f34c78014e2e13eb21caa071920aae16148e4d5"), looks := false }, kinds := [], alts := [], laidByText := true, laidKinds := [.data, .data, .data], laidTests := true, laidLooks := .later }
def FreshTrueUptoCardSaid : Prop := Claim7.holds Tryd.pinned (.plain (OpenSpec.upto freshTrueSpec)) freshTrueUptoCard

/-- THE SECOND FORM's CARD OF 'lockstitchlaw09.FreshMeets'. -/
def freshMeetsUptoCard : Claim7 := { stood := { row := freshMeetsUptoRow, standIns := [], harness := (true, "5d1c23a790543c66f8b0a84a6f34c78014e2e13eb21caa071920aae16148e4d5"), looks := false }, kinds := [], alts := [], laidByText := true, laidKinds := [.data, .data, .data], laidTests := true, laidLooks := .later }
def FreshMeetsUptoCardSaid : Prop := Claim7.holds Tryd.pinned (.plain (OpenSpec.upto freshMeetsSpec)) freshMeetsUptoCard

/-- THE SECOND FORM's CARD OF 'lockstitchlaw09.FreshMore'. -/
def freshMoreUptoCard : Claim7 := { stood := { row := freshMoreUptoRow, standIns := [], harness := (true, "5d1c23a790543c66f8b0a84a6f34c78014e2e13eb21caa071920aae16148e4d5"), looks := false }, kinds := [], alts := [], laidByText := true, laidKinds := [.data, .data, .data], laidTests := true, laidLooks := .later }
def FreshMoreUptoCardSaid : Prop := Claim7.holds Tryd.pinned (.plain (OpenSpec.upto freshMoreSpec)) freshMoreUptoCard

/-- THE SECOND FORM's CARD OF 'lockstitchlaw09.FreshSafe'. -/
def freshSafeUptoCard : Claim7 := { stood := { row := freshSafeUptoRow, standIns := [], harness := (true, "5d1c23a790543c66f8b0a84a6f34c78014e2e13eb21caa071920aae16148e4d5"), looks := false }, kinds := [], alts := [], laidByText := true, laidKinds := [.data, .data, .data], laidTests := true, laidLooks := .later }
def FreshSafeUptoCardSaid : Prop := Claim7.holds Tryd.pinned (.plain (OpenSpec.upto freshSafeSpec)) freshSafeUptoCard

/-- THE SECOND FORM's CARD OF 'lockstitchlaw09.FreshOthers'. -/
def freshOthersUptoCard : Claim7 := { stood := { row := freshOthersUptoRow, standIns := [], harness := (true, "5d1c23a790543c66f8b0a84a6f34c78014e2e13eb21caa071920aae16148e4d5"), looks := false }, kinds := [], alts := [], laidByText := true, laidKinds := [.data, .data, .data], laidTests := true, laidLooks := .later }
def FreshOthersUptoCardSaid : Prop := Claim7.holds Tryd.pinned (.plain (OpenSpec.upto freshOthersSpec)) freshOthersUptoCard

/-- THE SECOND FORM's CARD OF 'lockstitchlaw09.FreshNil'. -/
def freshNilUptoCard : Claim7 := { stood := { row := freshNilUptoRow, standIns := [], harness := (true, "5d1c23a790543c66f8b0a84a6f34c78014e2e13eb21caa071920aae16148e4d5"), looks := false }, kinds := [], alts := [], laidByText := true, laidKinds := [.data, .data, .data], laidTests := true, laidLooks := .later }
def FreshNilUptoCardSaid : Prop := Claim7.holds Tryd.pinned (.plain (OpenSpec.upto freshNilSpec)) freshNilUptoCard
end Rows
end Go.Proofs.YtfnoldopjnegfaaDoor
