/-
  DERIVED. GIVEN WITH THE SEED: THE CARDS: each row of YtijgpfimdlnkiaaDoorRows.lean that lists a variable, with what it lists TIED to the program's text (the seventh form; the later family's looks); each row that meets fmt, with fmt's text TOLD by the authors' own Lean function (tested against real Go, not proved from fmt's source: count such statements apart). THE CARD IS WHAT COUNTS. Prove the row's statement (the work); the ties are given (YtijgpfimdlnkiaaDoorTie.lean); close each card by the builder's one call (the guide's Derived/Test/ToyasCard.lean, 'card_holds'). Laid BY PROGRAM, IN A SANDBOX (cutbox-door.mjs). By AI agents, Wed Nov 11 2026. No macro, syntax, notation, axiom, sorry.
-/
import Derived.Test.YtijgpfimdlnkiaaDoorRows
import GoSem.ClaimSeven
namespace Go.Proofs.YtijgpfimdlnkiaaDoor
namespace Rows

/-- THE TIED CARD OF 'lockstitchlaw08.LiveTells'. -/
def liveTellsCard : Claim7 := { stood := { row := liveTellsRow, standIns := [], harness := (true, "9d6af10f670ce4763c75edb897562e4ccaf14f7dcde477327dcf218fb4009a39"), looks := false }, kinds := [], alts := [], laidByText := true, laidKinds := [.data, .data, .data], laidTests := true, laidLooks := .later }
def LiveTellsCardSaid : Prop := Claim7.holds Tryd.pinned (.plain (OpenSpec.ofChange liveTellsSpec)) liveTellsCard

/-- THE TIED CARD OF 'lockstitchlaw08.LiveFlows'. -/
def liveFlowsCard : Claim7 := { stood := { row := liveFlowsRow, standIns := [], harness := (true, "9d6af10f670ce4763c75edb897562e4ccaf14f7dcde477327dcf218fb4009a39"), looks := false }, kinds := [], alts := [], laidByText := true, laidKinds := [.data, .data, .data], laidTests := true, laidLooks := .later }
def LiveFlowsCardSaid : Prop := Claim7.holds Tryd.pinned (.plain (OpenSpec.ofChange liveFlowsSpec)) liveFlowsCard

/-- THE TIED CARD OF 'lockstitchlaw08.LiveOnly'. -/
def liveOnlyCard : Claim7 := { stood := { row := liveOnlyRow, standIns := [], harness := (true, "9d6af10f670ce4763c75edb897562e4ccaf14f7dcde477327dcf218fb4009a39"), looks := false }, kinds := [], alts := [], laidByText := true, laidKinds := [.data, .data, .data], laidTests := true, laidLooks := .later }
def LiveOnlyCardSaid : Prop := Claim7.holds Tryd.pinned (.plain (OpenSpec.ofChange liveOnlySpec)) liveOnlyCard

/-- THE TIED CARD OF 'lockstitchlaw08.LiveReads'. -/
def liveReadsCard : Claim7 := { stood := { row := liveReadsRow, standIns := [], harness := (true, "9d6af10f670ce4763c75edb897562e4ccaf14f7dcde477327dcf218fb4009a39"), looks := false }, kinds := [], alts := [], laidByText := true, laidKinds := [.data, .data, .data], laidTests := true, laidLooks := .later }
def LiveReadsCardSaid : Prop := Claim7.holds Tryd.pinned (.plain (OpenSpec.ofChange liveReadsSpec)) liveReadsCard

/-- THE TIED CARD OF 'lockstitchlaw08.LiveMore'. -/
def liveMoreCard : Claim7 := { stood := { row := liveMoreRow, standIns := [], harness := (true, "9d6af10f670ce4763c75edb897562e4ccaf14f7dcde477327dcf218fb4009a39"), looks := false }, kinds := [], alts := [], laidByText := true, laidKinds := [.data, .data, .data], laidTests := true, laidLooks := .later }
def LiveMoreCardSaid : Prop := Claim7.holds Tryd.pinned (.plain (OpenSpec.ofChange liveMoreSpec)) liveMoreCard

/-- THE TIED CARD OF 'lockstitchlaw08.LiveDead'. -/
def liveDeadCard : Claim7 := { stood := { row := liveDeadRow, standIns := [], harness := (true, "9d6af10f670ce4763c75edb897562e4ccaf14f7dcde477327dcf218fb4009a39"), looks := false }, kinds := [], alts := [], laidByText := true, laidKinds := [.data, .data, .data], laidTests := true, laidLooks := .later }
def LiveDeadCardSaid : Prop := Claim7.holds Tryd.pinned (.plain (OpenSpec.ofChange liveDeadSpec)) liveDeadCard

/-- THE SECOND FORM's CARD OF 'lockstitchlaw08.LiveTells'. -/
def liveTellsUptoCard : Claim7 := { stood := { row := liveTellsUptoRow, standIns := [], harness := (true, "9d6af10f670ce4763c75edb897562e4ccaf14f7dcde477327dcf218fb4009a39"), looks := false }, kinds := [], alts := [], laidByText := true, laidKinds := [.data, .data, .data], laidTests := true, laidLooks := .later }
def LiveTellsUptoCardSaid : Prop := Claim7.holds Tryd.pinned (.plain (OpenSpec.upto liveTellsSpec)) liveTellsUptoCard

/-- THE SECOND FORM's CARD OF 'lockstitchlaw08.LiveFlows'. -/
def liveFlowsUptoCard : Claim7 := { stood := { row := liveFlowsUptoRow, standIns := [], harness := (true, "9d6af10f670ce4763c75edb897562e4ccaf14f7dcde477327dcf218fb4009a39"), looks := false }, kinds := [], alts := [], laidByText := true, laidKinds := [.data, .data, .data], laidTests := true, laidLooks := .later }
def LiveFlowsUptoCardSaid : Prop := Claim7.holds Tryd.pinned (.plain (OpenSpec.upto liveFlowsSpec)) liveFlowsUptoCard

/-- THE SECOND FORM's CARD OF 'lockstitchlaw08.LiveOnly'. -/
def liveOnlyUptoCard : Claim7 := { stood := { row := liveOnlyUptoRow, standIns := [], harness := (true, "9d6af10f670ce4763c75edb897562e4ccaf14f7dcde477327dcf218fb4009a39"), looks := false }, kinds := [], alts := [], laidByText := true, laidKinds := [.data, .data, .data], laidTests := true, laidLooks := .later }
def LiveOnlyUptoCardSaid : Prop := Claim7.holds Tryd.pinned (.plain (OpenSpec.upto liveOnlySpec)) liveOnlyUptoCard

/-- THE SECOND FORM's CARD OF 'lockstitchlaw08.LiveReads'. -/
def liveReadsUptoCard : Claim7 := { stood := { row := liveReadsUptoRow, standIns := [], harness := (true, "9d6af10f670ce4763c75edb897562e4ccaf14f7dcde477327dcf218fb4009a39"), looks := false }, kinds := [], alts := [], laidByText := true, laidKinds := [.data, .data, .data], laidTests := true, laidLooks := .later }
def LiveReadsUptoCardSaid : Prop := Claim7.holds Tryd.pinned (.plain (OpenSpec.upto liveReadsSpec)) liveReadsUptoCard

/-- THE SECOND FORM's CARD OF 'lockstitchlaw08.LiveMore'. -/
def liveMoreUptoCard : Claim7 := { stood := { row := liveMoreUptoRow, standIns := [], harness := (true, "9d6af10f670ce4763c75edb897562e4ccaf14f7dcde477327dcf218fb4009a39"), looks := false }, kinds := [], alts := [], laidByText := true, laidKinds := [.data, .data, .data], laidTests := true, laidLooks := .later }
def LiveMoreUptoCardSaid : Prop := Claim7.holds Tryd.pinned (.plain (OpenSpec.upto liveMoreSpec)) liveMoreUptoCard

/-- THE SECOND FORM's CARD OF 'lockstitchlaw08.LiveDead'. -/
def liveDeadUptoCard : Claim7 := { stood := { row := liveDeadUptoRow, standIns := [], harness := (true, "9d6af10f670ce4763c75edb897562e4ccaf14f7dcde477327dcf218fb4009a39"), looks := false }, kinds := [], alts := [], laidByText := true, laidKinds := [.data, .data, .data], laidTests := true, laidLooks := .later }
def LiveDeadUptoCardSaid : Prop := Claim7.holds Tryd.pinned (.plain (OpenSpec.upto liveDeadSpec)) liveDeadUptoCard
end Rows
end Go.Proofs.YtijgpfimdlnkiaaDoor
