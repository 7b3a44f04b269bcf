/-
  DERIVED. GIVEN WITH THE SEED: THE CARDS: each row of YtbpijfncjboamaaDoorRows.lean that lists a variable, with what it lists TIED to the program's text (the seventh form; the later family's looks); each row that meets fmt, with fmt's text TOLD by the authors' own Lean function (tested against real Go, not proved from fmt's source: count such statements apart). THE CARD IS WHAT COUNTS. Prove the row's statement (the work); the ties are given (YtbpijfncjboamaaDoorTie.lean); close each card by the builder's one call (the guide's Derived/Test/ToyasCard.lean, 'card_holds'). Laid BY PROGRAM, IN A SANDBOX (cutbox-door.mjs). By AI agents, Wed Nov 11 2026. No macro, syntax, notation, axiom, sorry.
-/
import Derived.Test.YtbpijfncjboamaaDoorRows
import GoSem.ClaimSeven
namespace Go.Proofs.YtbpijfncjboamaaDoor
namespace Rows

/-- THE TIED CARD OF 'lockstitchlaw10.FullTells'. -/
def fullTellsCard : Claim7 := { stood := { row := fullTellsRow, standIns := [], harness := (true, "34928cd09200545c8e3e8dffa58517aa4ad756dbd8f453c22bb3d7e2ebf2f347"), looks := false }, kinds := [], alts := [], laidByText := true, laidKinds := [.data, .data, .data], laidTests := true, laidLooks := .later }
def FullTellsCardSaid : Prop := Claim7.holds Tryd.pinned (.plain (OpenSpec.ofChange fullTellsSpec)) fullTellsCard

/-- THE TIED CARD OF 'lockstitchlaw10.FullTrue'. -/
def fullTrueCard : Claim7 := { stood := { row := fullTrueRow, standIns := [], harness := (true, "34928cd09200545c8e3e8dffa58517aa4ad756dbd8f453c22bb3d7e2ebf2f347"), looks := false }, kinds := [], alts := [], laidByText := true, laidKinds := [.data, .data, .data], laidTests := true, laidLooks := .later }
def FullTrueCardSaid : Prop := Claim7.holds Tryd.pinned (.plain (OpenSpec.ofChange fullTrueSpec)) fullTrueCard

/-- THE TIED CARD OF 'lockstitchlaw10.FullMore'. -/
def fullMoreCard : Claim7 := { stood := { row := fullMoreRow, standIns := [], harness := (true, "34928cd09200545c8e3e8dffa58517aa4ad756dbd8f453c22bb3d7e2ebf2f347"), looks := false }, kinds := [], alts := [], laidByText := true, laidKinds := [.data, .data, .data], laidTests := true, laidLooks := .later }
def FullMoreCardSaid : Prop := Claim7.holds Tryd.pinned (.plain (OpenSpec.ofChange fullMoreSpec)) fullMoreCard

/-- THE TIED CARD OF 'lockstitchlaw10.FullStraight'. -/
def fullStraightCard : Claim7 := { stood := { row := fullStraightRow, standIns := [], harness := (true, "34928cd09200545c8e3e8dffa58517aa4ad756dbd8f453c22bb3d7e2ebf2f347"), looks := false }, kinds := [], alts := [], laidByText := true, laidKinds := [.data, .data, .data], laidTests := true, laidLooks := .later }
def FullStraightCardSaid : Prop := Claim7.holds Tryd.pinned (.plain (OpenSpec.ofChange fullStraightSpec)) fullStraightCard

/-- THE TIED CARD OF 'lockstitchlaw10.FullNone'. -/
def fullNoneCard : Claim7 := { stood := { row := fullNoneRow, standIns := [], harness := (true, "34928cd09200545c8e3e8dffa58517aa4ad756dbd8f453c22bb3d7e2ebf2f347"), looks := false }, kinds := [], alts := [], laidByText := true, laidKinds := [.data, .data, .data], laidTests := true, laidLooks := .later }
def FullNoneCardSaid : Prop := Claim7.holds Tryd.pinned (.plain (OpenSpec.ofChange fullNoneSpec)) fullNoneCard

/-- THE SECOND FORM's CARD OF 'lockstitchlaw10.FullTells'. -/
def fullTellsUptoCard : Claim7 := { stood := { row := fullTellsUptoRow, standIns := [], harness := (true, "34928cd09200545c8e3e8dffa58517aa4ad756dbd8f453c22bb3d7e2ebf2f347"), looks := false }, kinds := [], alts := [], laidByText := true, laidKinds := [.data, .data, .data], laidTests := true, laidLooks := .later }
def FullTellsUptoCardSaid : Prop := Claim7.holds Tryd.pinned (.plain (OpenSpec.upto fullTellsSpec)) fullTellsUptoCard

/-- THE SECOND FORM's CARD OF 'lockstitchlaw10.FullTrue'. -/
def fullTrueUptoCard : Claim7 := { stood := { row := fullTrueUptoRow, standIns := [], harness := (true, "34928cd09200545c8e3e8dffa58517aa4ad756dbd8f453c22bb3d7e2ebf2f347"), looks := false }, kinds := [], alts := [], laidByText := true, laidKinds := [.data, .data, .data], laidTests := true, laidLooks := .later }
def FullTrueUptoCardSaid : Prop := Claim7.holds Tryd.pinned (.plain (OpenSpec.upto fullTrueSpec)) fullTrueUptoCard

/-- THE SECOND FORM's CARD OF 'lockstitchlaw10.FullMore'. -/
def fullMoreUptoCard : Claim7 := { stood := { row := fullMoreUptoRow, standIns := [], harness := (true, "34928cd09200545c8e3e8dffa58517aa4ad756dbd8f453c22bb3d7e2ebf2f347"), looks := false }, kinds := [], alts := [], laidByText := true, laidKinds := [.data, .data, .data], laidTests := true, laidLooks := .later }
def FullMoreUptoCardSaid : Prop := Claim7.holds Tryd.pinned (.plain (OpenSpec.upto fullMoreSpec)) fullMoreUptoCard

/-- THE SECOND FORM's CARD OF 'lockstitchlaw10.FullStraight'. -/
def fullStraightUptoCard : Claim7 := { stood := { row := fullStraightUptoRow, standIns := [], harness := (true, "34928cd09200545c8e3e8dffa58517aa4ad756dbd8f453c22bb3d7e2ebf2f347"), looks := false }, kinds := [], alts := [], laidByText := true, laidKinds := [.data, .data, .data], laidTests := true, laidLooks := .later }
def FullStraightUptoCardSaid : Prop := Claim7.holds Tryd.pinned (.plain (OpenSpec.upto fullStraightSpec)) fullStraightUptoCard

/-- THE SECOND FORM's CARD OF 'lockstitchlaw10.FullNone'. -/
def fullNoneUptoCard : Claim7 := { stood := { row := fullNoneUptoRow, standIns := [], harness := (true, "34928cd09200545c8e3e8dffa58517aa4ad756dbd8f453c22bb3d7e2ebf2f347"), looks := false }, kinds := [], alts := [], laidByText := true, laidKinds := [.data, .data, .data], laidTests := true, laidLooks := .later }
def FullNoneUptoCardSaid : Prop := Claim7.holds Tryd.pinned (.plain (OpenSpec.upto fullNoneSpec)) fullNoneUptoCard
end Rows
end Go.Proofs.YtbpijfncjboamaaDoor
