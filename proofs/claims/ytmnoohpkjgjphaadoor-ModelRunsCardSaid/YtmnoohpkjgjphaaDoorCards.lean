/-
  DERIVED. GIVEN WITH THE SEED: THE CARDS: each row of YtmnoohpkjgjphaaDoorRows.lean that lists a variable, with what it lists TIED to the program's text (the seventh form; the later family's looks); each row that meets fmt, with fmt's text TOLD by the authors' own Lean function (tested against real Go, not proved from fmt's source: count such statements apart). THE CARD IS WHAT COUNTS. Prove the row's statement (the work); the ties are given (YtmnoohpkjgjphaaDoorTie.lean); close each card by the builder's one call (the guide's Derived/Test/ToyasCard.lean, 'card_holds'). Laid BY PROGRAM, IN A SANDBOX (cutbox-door.mjs). By AI agents, Wed Nov 11 2026. No macro, syntax, notation, axiom, sorry.
-/
import Derived.Test.YtmnoohpkjgjphaaDoorRows
import GoSem.ClaimSeven
namespace Go.Proofs.YtmnoohpkjgjphaaDoor
namespace Rows

/-- THE TIED CARD OF 'lockstitchlaw06.ModelSteps'. -/
def modelStepsCard : Claim7 := { stood := { row := modelStepsRow, standIns := [], harness := (true, "9ae5f920024a3937a3637143af85835bd48492f8fbddcee679c3028d9041b560"), looks := false }, kinds := [], alts := [], laidByText := true, laidKinds := [.data, .data, .data, .data], laidTests := true, laidLooks := .later }
def ModelStepsCardSaid : Prop := Claim7.holds Tryd.pinned (.plain (OpenSpec.ofChange modelStepsSpec)) modelStepsCard

/-- THE TIED CARD OF 'lockstitchlaw06.ModelRuns'. -/
def modelRunsCard : Claim7 := { stood := { row := modelRunsRow, standIns := [], harness := (true, "9ae5f920024a3937a3637143af85835bd48492f8fbddcee679c3028d9041b560"), looks := false }, kinds := [], alts := [], laidByText := true, laidKinds := [.data, .data, .data, .data], laidTests := true, laidLooks := .later }
def ModelRunsCardSaid : Prop := Claim7.holds Tryd.pinned (.plain (OpenSpec.ofChange modelRunsSpec)) modelRunsCard

/-- THE TIED CARD OF 'lockstitchlaw06.ModelFurther'. -/
def modelFurtherCard : Claim7 := { stood := { row := modelFurtherRow, standIns := [], harness := (true, "9ae5f920024a3937a3637143af85835bd48492f8fbddcee679c3028d9041b560"), looks := false }, kinds := [], alts := [], laidByText := true, laidKinds := [.data], laidTests := true, laidLooks := .later }
def ModelFurtherCardSaid : Prop := Claim7.holds Tryd.pinned (.plain (OpenSpec.ofChange modelFurtherSpec)) modelFurtherCard

/-- THE TIED CARD OF 'lockstitchlaw06.ModelRight'. -/
def modelRightCard : Claim7 := { stood := { row := modelRightRow, standIns := [], harness := (true, "9ae5f920024a3937a3637143af85835bd48492f8fbddcee679c3028d9041b560"), looks := false }, kinds := [], alts := [], laidByText := true, laidKinds := [.data, .data, .data, .data], laidTests := true, laidLooks := .later }
def ModelRightCardSaid : Prop := Claim7.holds Tryd.pinned (.plain (OpenSpec.ofChange modelRightSpec)) modelRightCard

/-- THE TIED CARD OF 'lockstitchlaw06.ModelMakes'. -/
def modelMakesCard : Claim7 := { stood := { row := modelMakesRow, standIns := [], harness := (true, "9ae5f920024a3937a3637143af85835bd48492f8fbddcee679c3028d9041b560"), looks := false }, kinds := [], alts := [], laidByText := true, laidKinds := [.data, .data, .data, .data], laidTests := true, laidLooks := .later }
def ModelMakesCardSaid : Prop := Claim7.holds Tryd.pinned (.plain (OpenSpec.ofChange modelMakesSpec)) modelMakesCard

/-- THE TIED CARD OF 'lockstitchlaw06.ModelPieces'. -/
def modelPiecesCard : Claim7 := { stood := { row := modelPiecesRow, standIns := [], harness := (true, "9ae5f920024a3937a3637143af85835bd48492f8fbddcee679c3028d9041b560"), looks := false }, kinds := [], alts := [], laidByText := true, laidKinds := [.data], laidTests := true, laidLooks := .later }
def ModelPiecesCardSaid : Prop := Claim7.holds Tryd.pinned (.plain (OpenSpec.ofChange modelPiecesSpec)) modelPiecesCard

/-- THE TIED CARD OF 'lockstitchlaw06.ModelEnd'. -/
def modelEndCard : Claim7 := { stood := { row := modelEndRow, standIns := [], harness := (true, "9ae5f920024a3937a3637143af85835bd48492f8fbddcee679c3028d9041b560"), looks := false }, kinds := [], alts := [], laidByText := true, laidKinds := [.data], laidTests := true, laidLooks := .later }
def ModelEndCardSaid : Prop := Claim7.holds Tryd.pinned (.plain (OpenSpec.ofChange modelEndSpec)) modelEndCard

/-- THE SECOND FORM's CARD OF 'lockstitchlaw06.ModelSteps'. -/
def modelStepsUptoCard : Claim7 := { stood := { row := modelStepsUptoRow, standIns := [], harness := (true, "9ae5f920024a3937a3637143af85835bd48492f8fbddcee679c3028d9041b560"), looks := false }, kinds := [], alts := [], laidByText := true, laidKinds := [.data, .data, .data, .data], laidTests := true, laidLooks := .later }
def ModelStepsUptoCardSaid : Prop := Claim7.holds Tryd.pinned (.plain (OpenSpec.upto modelStepsSpec)) modelStepsUptoCard

/-- THE SECOND FORM's CARD OF 'lockstitchlaw06.ModelRuns'. -/
def modelRunsUptoCard : Claim7 := { stood := { row := modelRunsUptoRow, standIns := [], harness := (true, "9ae5f920024a3937a3637143af85835bd48492f8fbddcee679c3028d9041b560"), looks := false }, kinds := [], alts := [], laidByText := true, laidKinds := [.data, .data, .data, .data], laidTests := true, laidLooks := .later }
def ModelRunsUptoCardSaid : Prop := Claim7.holds Tryd.pinned (.plain (OpenSpec.upto modelRunsSpec)) modelRunsUptoCard

/-- THE SECOND FORM's CARD OF 'lockstitchlaw06.ModelFurther'. -/
def modelFurtherUptoCard : Claim7 := { stood := { row := modelFurtherUptoRow, standIns := [], harness := (true, "9ae5f920024a3937a3637143af85835bd48492f8fbddcee679c3028d9041b560"), looks := false }, kinds := [], alts := [], laidByText := true, laidKinds := [.data], laidTests := true, laidLooks := .later }
def ModelFurtherUptoCardSaid : Prop := Claim7.holds Tryd.pinned (.plain (OpenSpec.upto modelFurtherSpec)) modelFurtherUptoCard

/-- THE SECOND FORM's CARD OF 'lockstitchlaw06.ModelRight'. -/
def modelRightUptoCard : Claim7 := { stood := { row := modelRightUptoRow, standIns := [], harness := (true, "9ae5f920024a3937a3637143af85835bd48492f8fbddcee679c3028d9041b560"), looks := false }, kinds := [], alts := [], laidByText := true, laidKinds := [.data, .data, .data, .data], laidTests := true, laidLooks := .later }
def ModelRightUptoCardSaid : Prop := Claim7.holds Tryd.pinned (.plain (OpenSpec.upto modelRightSpec)) modelRightUptoCard

/-- THE SECOND FORM's CARD OF 'lockstitchlaw06.ModelMakes'. -/
def modelMakesUptoCard : Claim7 := { stood := { row := modelMakesUptoRow, standIns := [], harness := (true, "9ae5f920024a3937a3637143af85835bd48492f8fbddcee679c3028d9041b560"), looks := false }, kinds := [], alts := [], laidByText := true, laidKinds := [.data, .data, .data, .data], laidTests := true, laidLooks := .later }
def ModelMakesUptoCardSaid : Prop := Claim7.holds Tryd.pinned (.plain (OpenSpec.upto modelMakesSpec)) modelMakesUptoCard

/-- THE SECOND FORM's CARD OF 'lockstitchlaw06.ModelPieces'. -/
def modelPiecesUptoCard : Claim7 := { stood := { row := modelPiecesUptoRow, standIns := [], harness := (true, "9ae5f920024a3937a3637143af85835bd48492f8fbddcee679c3028d9041b560"), looks := false }, kinds := [], alts := [], laidByText := true, laidKinds := [.data], laidTests := true, laidLooks := .later }
def ModelPiecesUptoCardSaid : Prop := Claim7.holds Tryd.pinned (.plain (OpenSpec.upto modelPiecesSpec)) modelPiecesUptoCard

/-- THE SECOND FORM's CARD OF 'lockstitchlaw06.ModelEnd'. -/
def modelEndUptoCard : Claim7 := { stood := { row := modelEndUptoRow, standIns := [], harness := (true, "9ae5f920024a3937a3637143af85835bd48492f8fbddcee679c3028d9041b560"), looks := false }, kinds := [], alts := [], laidByText := true, laidKinds := [.data], laidTests := true, laidLooks := .later }
def ModelEndUptoCardSaid : Prop := Claim7.holds Tryd.pinned (.plain (OpenSpec.upto modelEndSpec)) modelEndUptoCard
end Rows
end Go.Proofs.YtmnoohpkjgjphaaDoor
