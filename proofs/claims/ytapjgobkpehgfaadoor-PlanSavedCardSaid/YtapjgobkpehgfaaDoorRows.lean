/-
  NARROWER THAN 'FOR EVERY INPUT', by the rows' own cells (each row's printed sentence says how): PlanSaved: laid.
  DERIVED. THE GIVEN ROWS OF THIS SEAT. 1 by the template 'for every input the law returns true; each argument reads behind the call as it read before'; 0 by the template 'total and deterministic' (their statements: YtapjgobkpehgfaaDoorTotals.lean).
  GIVEN WITH THE SEED: the statements are not yours to turn. If you find one false, say at which input.
  Laid BY PROGRAM, IN A SANDBOX (cutbox-rows.mjs): the forced cells as the released guide's own fill.sh prints them over the translation ad0c4b36cddb67e7… (all of the seat's roots in one cut). By AI agents, Wed Nov 11 2026. No macro, syntax, notation, axiom, sorry.
-/
import Derived.Test.YtapjgobkpehgfaaDoorChecked
import GoSem.Claim
import GoSem.ClaimJoined
import GoSem.ClaimMapViews
import Derived.JoinedTies
import Derived.KernelRfl
namespace Go.Proofs.YtapjgobkpehgfaaDoor
/- THE CELL 'sum', in the pinned program and in every row, IS THE sha256 OF THE DUMP (.gsa) THAT YtapjgobkpehgfaaDoorProg.lean LOADS. Nothing in Lean hashes anything: it is a label: what it is worth is what the hold of that sum in a sandbox is worth. -/
noncomputable def Tryd.pinned : Pinned := { name := "ytapjgobkpehgfaadoor", sum := "ad0c4b36cddb67e7242034db905480db7c2c8ce0c4b79f9e8903b8ce6f36b501", checked := Tryd.checked }
namespace Rows
def none {H : Type} : Left H := { results := [], args := [] }

/- WHAT THE LISTED PACKAGE-LEVEL VARIABLES READ AS WHEN THE CALL BEGINS. Each datum BY PROGRAM (the guide's laid-datum.mjs) off the statement by which the dump's own 'gosem.cut.vars' lays the variable. In a bare row this is a premise. The card (YtapjgobkpehgfaaDoorCards.lean) ties it to the program's text. -/
def laid_lockstitch_code_operations {H : Type} : DataW H := .agg [.agg [.lit (.int .u8 1), .lit (.string [115, 101, 116]), .lit (.string [65, 78])], .agg [.lit (.int .u8 2), .lit (.string [97, 100, 100]), .lit (.string [65, 66, 67])], .agg [.lit (.int .u8 3), .lit (.string [106, 117, 109, 112]), .lit (.string [78])], .agg [.lit (.int .u8 4), .lit (.string [122, 101, 114, 111]), .lit (.string [65, 78])], .agg [.lit (.int .u8 5), .lit (.string [110, 101, 119]), .lit (.string [65])], .agg [.lit (.int .u8 6), .lit (.string [110, 105, 108]), .lit (.string [65])], .agg [.lit (.int .u8 7), .lit (.string [109, 111, 118, 101]), .lit (.string [65, 66])], .agg [.lit (.int .u8 8), .lit (.string [108, 111, 97, 100, 105]), .lit (.string [65, 66, 78])], .agg [.lit (.int .u8 9), .lit (.string [115, 116, 111, 114, 101, 105]), .lit (.string [65, 78, 66])], .agg [.lit (.int .u8 10), .lit (.string [108, 111, 97, 100, 112]), .lit (.string [65, 66, 78])], .agg [.lit (.int .u8 11), .lit (.string [115, 116, 111, 114, 101, 112]), .lit (.string [65, 78, 66])], .agg [.lit (.int .u8 12), .lit (.string [108, 111, 97, 100, 103]), .lit (.string [65, 66])], .agg [.lit (.int .u8 13), .lit (.string [115, 116, 111, 114, 101, 103]), .lit (.string [65, 66])], .agg [.lit (.int .u8 14), .lit (.string [112, 114, 105, 110, 116]), .lit (.string [65])], .agg [.lit (.int .u8 15), .lit (.string [115, 97, 109, 101]), .lit (.string [65, 66, 67])]]

/-- 'lockstitchlaw12.PlanSaved': WHATEVER THE INPUT: true; the input reads as it did. -/
def planSavedSpec : ChangeSpec := { name := "planSaved", fn := fun _ => fun
  | [d1, d2] => { results := [.lit (.bool true)], args := [d1, d2] }
  | _ => none }
def planSavedRow : OpenClaim := { program := "ytapjgobkpehgfaadoor", sum := "ad0c4b36cddb67e7242034db905480db7c2c8ce0c4b79f9e8903b8ce6f36b501", func := "lockstitch/lockstitchlaw12.PlanSaved", spec := "planSaved", unfollowed := true, recurses := true, named := ["lockstitch/code.operations"], apart := false, laid := [("lockstitch/code.operations", laid_lockstitch_code_operations)] }
def PlanSavedSaid : Prop := planSavedRow.holds Tryd.pinned (OpenSpec.ofChange planSavedSpec)

/-- ITS FALSE NEIGHBOUR: 'it returns false'. Refute it at one input. -/
def planSavedWrong : ChangeSpec := { name := "planSaved", fn := fun _ => fun
  | [d1, d2] => { results := [.lit (.bool false)], args := [d1, d2] }
  | _ => none }
def PlanSavedWrongFalsely : Prop := planSavedRow.holds Tryd.pinned (OpenSpec.ofChange planSavedWrong)

/- THE SECOND FORM. 'bulk': how many values and letters a reading holds, each counted each time it is reached (what is shared counts as often as it is met; a slice's spare places count too). A statement '..UptoSaid' is the law's where the arguments, and the package variables that the reading takes, are together of bulk at most 1048576: NARROWER than '..Said'. Prove '..Said' where nothing that the law and all that it calls make is longer than what came in: it says more and counts as full. Else prove '..UptoSaid'. A law counts once. -/
mutual
def uptoBulk {H : Type} : DataW H → Nat
  | .lit (.string bytes) => bytes.length + 1
  | .lit _ => 1
  | .nil => 1
  | .ptr d => uptoBulk d + 1
  | .slice elems spare => uptoBulkAll elems + uptoBulkAll spare + 1
  | .agg parts => uptoBulkAll parts + 1
  | .iface _ d => uptoBulk d + 1
  | .map entries => uptoBulkEntries entries + 1
  | .held _ => 1
def uptoBulkAll {H : Type} : List (DataW H) → Nat
  | [] => 0
  | d :: r => uptoBulk d + uptoBulkAll r
def uptoBulkEntries {H : Type} : List (Lit × DataW H) → Nat
  | [] => 0
  | x :: r => uptoBulkEntry x + uptoBulkEntries r
def uptoBulkEntry {H : Type} : Lit × DataW H → Nat
  | (.string bytes, d) => bytes.length + uptoBulk d + 1
  | (_, d) => uptoBulk d + 1
 end
def uptoSmall : (H : Type) → List (DataW H) → Bool := fun _ ds => decide (uptoBulkAll ds ≤ 1048576)
def OpenSpec.upto (s : _root_.Go.ChangeSpec) : _root_.Go.OpenSpec := { _root_.Go.OpenSpec.ofChange s with cond := some uptoSmall }

/-- 'lockstitchlaw12.PlanSaved', WHERE WHAT IT READS IS OF BULK AT MOST 1048576: true; the input reads as it did. -/
def planSavedUptoRow : OpenClaim := { program := "ytapjgobkpehgfaadoor", sum := "ad0c4b36cddb67e7242034db905480db7c2c8ce0c4b79f9e8903b8ce6f36b501", func := "lockstitch/lockstitchlaw12.PlanSaved", spec := "planSaved", unfollowed := true, recurses := true, named := ["lockstitch/code.operations"], apart := false, laid := [("lockstitch/code.operations", laid_lockstitch_code_operations)], narrowed := true }
def PlanSavedUptoSaid : Prop := planSavedUptoRow.holds Tryd.pinned (OpenSpec.upto planSavedSpec)

end Rows
end Go.Proofs.YtapjgobkpehgfaaDoor
