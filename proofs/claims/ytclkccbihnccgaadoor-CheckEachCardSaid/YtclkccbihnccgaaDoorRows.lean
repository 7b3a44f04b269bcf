/-
  NARROWER THAN 'FOR EVERY INPUT', by the rows' own cells (each row's printed sentence says how): CheckFirst: laid · CheckFewer: laid · CheckNames: laid · CheckEach: laid · CheckNeeds: laid.
  DERIVED. THE GIVEN ROWS OF THIS SEAT. 5 by the template 'for every input the law returns true; each argument reads behind the call as it read before'; 0 by the template 'total and deterministic' (their statements: YtclkccbihnccgaaDoorTotals.lean).
  GIVEN WITH THE SEED: the statements are not yours to turn. If you find one false, say at which input.
  Laid BY PROGRAM, IN A SANDBOX (cutbox-rows.mjs): the forced cells as the released guide's own fill.sh prints them over the translation bc0262027199dc4d… (all of the seat's roots in one cut). By AI agents, Wed Nov 11 2026. No macro, syntax, notation, axiom, sorry.
-/
import Derived.Test.YtclkccbihnccgaaDoorChecked
import GoSem.Claim
import GoSem.ClaimJoined
import GoSem.ClaimMapViews
import Derived.JoinedTies
import Derived.KernelRfl
namespace Go.Proofs.YtclkccbihnccgaaDoor
/- THE CELL 'sum', in the pinned program and in every row, IS THE sha256 OF THE DUMP (.gsa) THAT YtclkccbihnccgaaDoorProg.lean LOADS. Nothing in Lean hashes anything: it is a label: what it is worth is what the hold of that sum in a sandbox is worth. -/
noncomputable def Tryd.pinned : Pinned := { name := "ytclkccbihnccgaadoor", sum := "bc0262027199dc4d28564e2199aa20d570d00fe3051616a21792388ebf5b83d7", checked := Tryd.checked }
namespace Rows
def none {H : Type} : Left H := { results := [], args := [] }

/- WHAT THE LISTED PACKAGE-LEVEL VARIABLES READ AS WHEN THE CALL BEGINS. Each datum BY PROGRAM (the guide's laid-datum.mjs) off the statement by which the dump's own 'gosem.cut.vars' lays the variable. In a bare row this is a premise. The card (YtclkccbihnccgaaDoorCards.lean) ties it to the program's text. -/
def laid_lockstitch_code_operations {H : Type} : DataW H := .agg [.agg [.lit (.int .u8 1), .lit (.string [115, 101, 116]), .lit (.string [65, 78])], .agg [.lit (.int .u8 2), .lit (.string [97, 100, 100]), .lit (.string [65, 66, 67])], .agg [.lit (.int .u8 3), .lit (.string [106, 117, 109, 112]), .lit (.string [78])], .agg [.lit (.int .u8 4), .lit (.string [122, 101, 114, 111]), .lit (.string [65, 78])], .agg [.lit (.int .u8 5), .lit (.string [110, 101, 119]), .lit (.string [65])], .agg [.lit (.int .u8 6), .lit (.string [110, 105, 108]), .lit (.string [65])], .agg [.lit (.int .u8 7), .lit (.string [109, 111, 118, 101]), .lit (.string [65, 66])], .agg [.lit (.int .u8 8), .lit (.string [108, 111, 97, 100, 105]), .lit (.string [65, 66, 78])], .agg [.lit (.int .u8 9), .lit (.string [115, 116, 111, 114, 101, 105]), .lit (.string [65, 78, 66])], .agg [.lit (.int .u8 10), .lit (.string [108, 111, 97, 100, 112]), .lit (.string [65, 66, 78])], .agg [.lit (.int .u8 11), .lit (.string [115, 116, 111, 114, 101, 112]), .lit (.string [65, 78, 66])], .agg [.lit (.int .u8 12), .lit (.string [108, 111, 97, 100, 103]), .lit (.string [65, 66])], .agg [.lit (.int .u8 13), .lit (.string [115, 116, 111, 114, 101, 103]), .lit (.string [65, 66])], .agg [.lit (.int .u8 14), .lit (.string [112, 114, 105, 110, 116]), .lit (.string [65])], .agg [.lit (.int .u8 15), .lit (.string [115, 97, 109, 101]), .lit (.string [65, 66, 67])]]

/-- 'lockstitchlaw05.CheckFirst': WHATEVER THE INPUT: true; the input reads as it did. -/
def checkFirstSpec : ChangeSpec := { name := "checkFirst", fn := fun _ => fun
  | [d1, d2] => { results := [.lit (.bool true)], args := [d1, d2] }
  | _ => none }
def checkFirstRow : OpenClaim := { program := "ytclkccbihnccgaadoor", sum := "bc0262027199dc4d28564e2199aa20d570d00fe3051616a21792388ebf5b83d7", func := "lockstitch/lockstitchlaw05.CheckFirst", spec := "checkFirst", named := ["lockstitch/code.operations"], apart := false, laid := [("lockstitch/code.operations", laid_lockstitch_code_operations)] }
def CheckFirstSaid : Prop := checkFirstRow.holds Tryd.pinned (OpenSpec.ofChange checkFirstSpec)

/-- ITS FALSE NEIGHBOUR: 'it returns false'. Refute it at one input. -/
def checkFirstWrong : ChangeSpec := { name := "checkFirst", fn := fun _ => fun
  | [d1, d2] => { results := [.lit (.bool false)], args := [d1, d2] }
  | _ => none }
def CheckFirstWrongFalsely : Prop := checkFirstRow.holds Tryd.pinned (OpenSpec.ofChange checkFirstWrong)

/-- 'lockstitchlaw05.CheckFewer': WHATEVER THE INPUT: true; the input reads as it did. -/
def checkFewerSpec : ChangeSpec := { name := "checkFewer", fn := fun _ => fun
  | [d] => { results := [.lit (.bool true)], args := [d] }
  | _ => none }
def checkFewerRow : OpenClaim := { program := "ytclkccbihnccgaadoor", sum := "bc0262027199dc4d28564e2199aa20d570d00fe3051616a21792388ebf5b83d7", func := "lockstitch/lockstitchlaw05.CheckFewer", spec := "checkFewer", named := ["lockstitch/code.operations"], apart := false, laid := [("lockstitch/code.operations", laid_lockstitch_code_operations)] }
def CheckFewerSaid : Prop := checkFewerRow.holds Tryd.pinned (OpenSpec.ofChange checkFewerSpec)

/-- ITS FALSE NEIGHBOUR: 'it returns false'. Refute it at one input. -/
def checkFewerWrong : ChangeSpec := { name := "checkFewer", fn := fun _ => fun
  | [d] => { results := [.lit (.bool false)], args := [d] }
  | _ => none }
def CheckFewerWrongFalsely : Prop := checkFewerRow.holds Tryd.pinned (OpenSpec.ofChange checkFewerWrong)

/-- 'lockstitchlaw05.CheckNames': WHATEVER THE INPUT: true; the input reads as it did. -/
def checkNamesSpec : ChangeSpec := { name := "checkNames", fn := fun _ => fun
  | [d1, d2] => { results := [.lit (.bool true)], args := [d1, d2] }
  | _ => none }
def checkNamesRow : OpenClaim := { program := "ytclkccbihnccgaadoor", sum := "bc0262027199dc4d28564e2199aa20d570d00fe3051616a21792388ebf5b83d7", func := "lockstitch/lockstitchlaw05.CheckNames", spec := "checkNames", named := ["lockstitch/code.operations"], apart := false, laid := [("lockstitch/code.operations", laid_lockstitch_code_operations)] }
def CheckNamesSaid : Prop := checkNamesRow.holds Tryd.pinned (OpenSpec.ofChange checkNamesSpec)

/-- ITS FALSE NEIGHBOUR: 'it returns false'. Refute it at one input. -/
def checkNamesWrong : ChangeSpec := { name := "checkNames", fn := fun _ => fun
  | [d1, d2] => { results := [.lit (.bool false)], args := [d1, d2] }
  | _ => none }
def CheckNamesWrongFalsely : Prop := checkNamesRow.holds Tryd.pinned (OpenSpec.ofChange checkNamesWrong)

/-- 'lockstitchlaw05.CheckEach': WHATEVER THE INPUT: true; the input reads as it did. -/
def checkEachSpec : ChangeSpec := { name := "checkEach", fn := fun _ => fun
  | [d] => { results := [.lit (.bool true)], args := [d] }
  | _ => none }
def checkEachRow : OpenClaim := { program := "ytclkccbihnccgaadoor", sum := "bc0262027199dc4d28564e2199aa20d570d00fe3051616a21792388ebf5b83d7", func := "lockstitch/lockstitchlaw05.CheckEach", spec := "checkEach", named := ["lockstitch/code.operations"], apart := false, laid := [("lockstitch/code.operations", laid_lockstitch_code_operations)] }
def CheckEachSaid : Prop := checkEachRow.holds Tryd.pinned (OpenSpec.ofChange checkEachSpec)

/-- ITS FALSE NEIGHBOUR: 'it returns false'. Refute it at one input. -/
def checkEachWrong : ChangeSpec := { name := "checkEach", fn := fun _ => fun
  | [d] => { results := [.lit (.bool false)], args := [d] }
  | _ => none }
def CheckEachWrongFalsely : Prop := checkEachRow.holds Tryd.pinned (OpenSpec.ofChange checkEachWrong)

/-- 'lockstitchlaw05.CheckNeeds': WHATEVER THE INPUT: true; the input reads as it did. -/
def checkNeedsSpec : ChangeSpec := { name := "checkNeeds", fn := fun _ => fun
  | [d] => { results := [.lit (.bool true)], args := [d] }
  | _ => none }
def checkNeedsRow : OpenClaim := { program := "ytclkccbihnccgaadoor", sum := "bc0262027199dc4d28564e2199aa20d570d00fe3051616a21792388ebf5b83d7", func := "lockstitch/lockstitchlaw05.CheckNeeds", spec := "checkNeeds", named := ["lockstitch/code.operations"], apart := false, laid := [("lockstitch/code.operations", laid_lockstitch_code_operations)] }
def CheckNeedsSaid : Prop := checkNeedsRow.holds Tryd.pinned (OpenSpec.ofChange checkNeedsSpec)

/-- ITS FALSE NEIGHBOUR: 'it returns false'. Refute it at one input. -/
def checkNeedsWrong : ChangeSpec := { name := "checkNeeds", fn := fun _ => fun
  | [d] => { results := [.lit (.bool false)], args := [d] }
  | _ => none }
def CheckNeedsWrongFalsely : Prop := checkNeedsRow.holds Tryd.pinned (OpenSpec.ofChange checkNeedsWrong)

/- THE SECOND FORM. 'bulk': how many values and letters a reading holds, each counted each time it is reached (what is shared counts as often as it is met; a slice's spare places count too). A statement '..UptoSaid' is the law's where the arguments, and the package variables that the reading takes, are together of bulk at most 1048576: NARROWER than '..Said'. Prove '..Said' where nothing that the law and all that it calls make is longer than what came in: it says more and counts as full. Else prove '..UptoSaid'. A law counts once. -/
mutual
def uptoBulk {H : Type} : DataW H → Nat
  | .lit (.string bytes) => bytes.length + 1
  | .lit _ => 1
  | .nil => 1
  | .ptr d => uptoBulk d + 1
  | .slice elems spare => uptoBulkAll elems + uptoBulkAll spare + 1
  | .agg parts => uptoBulkAll parts + 1
  | .iface _ d => uptoBulk d + 1
  | .map entries => uptoBulkEntries entries + 1
  | .held _ => 1
def uptoBulkAll {H : Type} : List (DataW H) → Nat
  | [] => 0
  | d :: r => uptoBulk d + uptoBulkAll r
def uptoBulkEntries {H : Type} : List (Lit × DataW H) → Nat
  | [] => 0
  | x :: r => uptoBulkEntry x + uptoBulkEntries r
def uptoBulkEntry {H : Type} : Lit × DataW H → Nat
  | (.string bytes, d) => bytes.length + uptoBulk d + 1
  | (_, d) => uptoBulk d + 1
 end
def uptoSmall : (H : Type) → List (DataW H) → Bool := fun _ ds => decide (uptoBulkAll ds ≤ 1048576)
def OpenSpec.upto (s : _root_.Go.ChangeSpec) : _root_.Go.OpenSpec := { _root_.Go.OpenSpec.ofChange s with cond := some uptoSmall }

/-- 'lockstitchlaw05.CheckFirst', WHERE WHAT IT READS IS OF BULK AT MOST 1048576: true; the input reads as it did. -/
def checkFirstUptoRow : OpenClaim := { program := "ytclkccbihnccgaadoor", sum := "bc0262027199dc4d28564e2199aa20d570d00fe3051616a21792388ebf5b83d7", func := "lockstitch/lockstitchlaw05.CheckFirst", spec := "checkFirst", named := ["lockstitch/code.operations"], apart := false, laid := [("lockstitch/code.operations", laid_lockstitch_code_operations)], narrowed := true }
def CheckFirstUptoSaid : Prop := checkFirstUptoRow.holds Tryd.pinned (OpenSpec.upto checkFirstSpec)

/-- 'lockstitchlaw05.CheckFewer', WHERE WHAT IT READS IS OF BULK AT MOST 1048576: true; the input reads as it did. -/
def checkFewerUptoRow : OpenClaim := { program := "ytclkccbihnccgaadoor", sum := "bc0262027199dc4d28564e2199aa20d570d00fe3051616a21792388ebf5b83d7", func := "lockstitch/lockstitchlaw05.CheckFewer", spec := "checkFewer", named := ["lockstitch/code.operations"], apart := false, laid := [("lockstitch/code.operations", laid_lockstitch_code_operations)], narrowed := true }
def CheckFewerUptoSaid : Prop := checkFewerUptoRow.holds Tryd.pinned (OpenSpec.upto checkFewerSpec)

/-- 'lockstitchlaw05.CheckNames', WHERE WHAT IT READS IS OF BULK AT MOST 1048576: true; the input reads as it did. -/
def checkNamesUptoRow : OpenClaim := { program := "ytclkccbihnccgaadoor", sum := "bc0262027199dc4d28564e2199aa20d570d00fe3051616a21792388ebf5b83d7", func := "lockstitch/lockstitchlaw05.CheckNames", spec := "checkNames", named := ["lockstitch/code.operations"], apart := false, laid := [("lockstitch/code.operations", laid_lockstitch_code_operations)], narrowed := true }
def CheckNamesUptoSaid : Prop := checkNamesUptoRow.holds Tryd.pinned (OpenSpec.upto checkNamesSpec)

/-- 'lockstitchlaw05.CheckEach', WHERE WHAT IT READS IS OF BULK AT MOST 1048576: true; the input reads as it did. -/
def checkEachUptoRow : OpenClaim := { program := "ytclkccbihnccgaadoor", sum := "bc0262027199dc4d28564e2199aa20d570d00fe3051616a21792388ebf5b83d7", func := "lockstitch/lockstitchlaw05.CheckEach", spec := "checkEach", named := ["lockstitch/code.operations"], apart := false, laid := [("lockstitch/code.operations", laid_lockstitch_code_operations)], narrowed := true }
def CheckEachUptoSaid : Prop := checkEachUptoRow.holds Tryd.pinned (OpenSpec.upto checkEachSpec)

/-- 'lockstitchlaw05.CheckNeeds', WHERE WHAT IT READS IS OF BULK AT MOST 1048576: true; the input reads as it did. -/
def checkNeedsUptoRow : OpenClaim := { program := "ytclkccbihnccgaadoor", sum := "bc0262027199dc4d28564e2199aa20d570d00fe3051616a21792388ebf5b83d7", func := "lockstitch/lockstitchlaw05.CheckNeeds", spec := "checkNeeds", named := ["lockstitch/code.operations"], apart := false, laid := [("lockstitch/code.operations", laid_lockstitch_code_operations)], narrowed := true }
def CheckNeedsUptoSaid : Prop := checkNeedsUptoRow.holds Tryd.pinned (OpenSpec.upto checkNeedsSpec)

end Rows
end Go.Proofs.YtclkccbihnccgaaDoor
