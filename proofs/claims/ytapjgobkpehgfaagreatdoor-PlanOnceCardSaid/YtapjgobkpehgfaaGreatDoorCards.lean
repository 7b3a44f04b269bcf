/-
  DERIVED. GIVEN WITH THE SEED: THE CARDS: each row of YtapjgobkpehgfaaGreatDoorRows.lean that lists a variable, with what it lists TIED to the program's text (the seventh form; the later family's looks); each row that meets fmt, with fmt's text TOLD by the authors' own Lean function (tested against real Go, not proved from fmt's source: count such statements apart). THE CARD IS WHAT COUNTS. Prove the row's statement (the work); the ties are given (YtapjgobkpehgfaaGreatDoorTie.lean); close each card by the builder's one call (the guide's Derived/Test/ToyasCard.lean, 'card_holds'). Laid BY PROGRAM, IN A SANDBOX (cutbox-door.mjs). By AI agents, Wed Nov 11 2026. No macro, syntax, notation, axiom, sorry.
-/
import Derived.Test.YtapjgobkpehgfaaGreatDoorRows
import GoSem.ClaimSeven
namespace Go.Proofs.YtapjgobkpehgfaaGreatDoor
namespace Rows

/-- THE TIED CARD OF 'lockstitchlaw12.PlanFits'. -/
def planFitsCard : Claim7 := { stood := { row := planFitsRow, standIns := [], harness := (true, "7b69e0e4e93355c77bb0955df00737e2b17066483623c3270d6a4ebee1513d62"), looks := false }, kinds := [], alts := [], laidByText := true, laidKinds := [.data, .data, .data, .data], laidTests := true, laidLooks := .later }
def PlanFitsCardSaid : Prop := Claim7.holds Tryz.pinned (.plain (OpenSpec.ofChange planFitsSpec)) planFitsCard

/-- THE TIED CARD OF 'lockstitchlaw12.PlanPlain'. -/
def planPlainCard : Claim7 := { stood := { row := planPlainRow, standIns := [], harness := (true, "7b69e0e4e93355c77bb0955df00737e2b17066483623c3270d6a4ebee1513d62"), looks := false }, kinds := [], alts := [], laidByText := true, laidKinds := [.data, .data, .data, .data], laidTests := true, laidLooks := .later }
def PlanPlainCardSaid : Prop := Claim7.holds Tryz.pinned (.plain (OpenSpec.ofChange planPlainSpec)) planPlainCard

/-- THE TIED CARD OF 'lockstitchlaw12.PlanOnce'. -/
def planOnceCard : Claim7 := { stood := { row := planOnceRow, standIns := [], harness := (true, "7b69e0e4e93355c77bb0955df00737e2b17066483623c3270d6a4ebee1513d62"), looks := false }, kinds := [], alts := [], laidByText := true, laidKinds := [.data, .data, .data, .data], laidTests := true, laidLooks := .later }
def PlanOnceCardSaid : Prop := Claim7.holds Tryz.pinned (.plain (OpenSpec.ofChange planOnceSpec)) planOnceCard

/-- THE TIED CARD OF 'lockstitchlaw12.PlanKinds'. -/
def planKindsCard : Claim7 := { stood := { row := planKindsRow, standIns := [], harness := (true, "7b69e0e4e93355c77bb0955df00737e2b17066483623c3270d6a4ebee1513d62"), looks := false }, kinds := [], alts := [], laidByText := true, laidKinds := [.data, .data, .data, .data], laidTests := true, laidLooks := .later }
def PlanKindsCardSaid : Prop := Claim7.holds Tryz.pinned (.plain (OpenSpec.ofChange planKindsSpec)) planKindsCard

/-- THE SECOND FORM's CARD OF 'lockstitchlaw12.PlanFits'. -/
def planFitsUptoCard : Claim7 := { stood := { row := planFitsUptoRow, standIns := [], harness := (true, "7b69e0e4e93355c77bb0955df00737e2b17066483623c3270d6a4ebee1513d62"), looks := false }, kinds := [], alts := [], laidByText := true, laidKinds := [.data, .data, .data, .data], laidTests := true, laidLooks := .later }
def PlanFitsUptoCardSaid : Prop := Claim7.holds Tryz.pinned (.plain (OpenSpec.upto planFitsSpec)) planFitsUptoCard

/-- THE SECOND FORM's CARD OF 'lockstitchlaw12.PlanPlain'. -/
def planPlainUptoCard : Claim7 := { stood := { row := planPlainUptoRow, standIns := [], harness := (true, "7b69e0e4e93355c77bb0955df00737e2b17066483623c3270d6a4ebee1513d62"), looks := false }, kinds := [], alts := [], laidByText := true, laidKinds := [.data, .data, .data, .data], laidTests := true, laidLooks := .later }
def PlanPlainUptoCardSaid : Prop := Claim7.holds Tryz.pinned (.plain (OpenSpec.upto planPlainSpec)) planPlainUptoCard

/-- THE SECOND FORM's CARD OF 'lockstitchlaw12.PlanOnce'. -/
def planOnceUptoCard : Claim7 := { stood := { row := planOnceUptoRow, standIns := [], harness := (true, "7b69e0e4e93355c77bb0955df00737e2b17066483623c3270d6a4ebee1513d62"), looks := false }, kinds := [], alts := [], laidByText := true, laidKinds := [.data, .data, .data, .data], laidTests := true, laidLooks := .later }
def PlanOnceUptoCardSaid : Prop := Claim7.holds Tryz.pinned (.plain (OpenSpec.upto planOnceSpec)) planOnceUptoCard

/-- THE SECOND FORM's CARD OF 'lockstitchlaw12.PlanKinds'. -/
def planKindsUptoCard : Claim7 := { stood := { row := planKindsUptoRow, standIns := [], harness := (true, "7b69e0e4e93355c77bb0955df00737e2b17066483623c3270d6a4ebee1513d62"), looks := false }, kinds := [], alts := [], laidByText := true, laidKinds := [.data, .data, .data, .data], laidTests := true, laidLooks := .later }
def PlanKindsUptoCardSaid : Prop := Claim7.holds Tryz.pinned (.plain (OpenSpec.upto planKindsSpec)) planKindsUptoCard
end Rows
end Go.Proofs.YtapjgobkpehgfaaGreatDoor
