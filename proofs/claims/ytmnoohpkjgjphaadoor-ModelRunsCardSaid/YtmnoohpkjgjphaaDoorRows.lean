/-
  NARROWER THAN 'FOR EVERY INPUT', by the rows' own cells (each row's printed sentence says how): ModelSteps: laid · ModelRuns: laid · ModelFurther: laid · ModelRight: laid · ModelMakes: laid · ModelPieces: laid · ModelEnd: laid.
  DERIVED. THE GIVEN ROWS OF THIS SEAT. 7 by the template 'for every input the law returns true; each argument reads behind the call as it read before'; 0 by the template 'total and deterministic' (their statements: YtmnoohpkjgjphaaDoorTotals.lean).
  GIVEN WITH THE SEED: the statements are not yours to turn. If you find one false, say at which input.
  Laid BY PROGRAM, IN A SANDBOX (cutbox-rows.mjs): the forced cells as the released guide's own fill.sh prints them over the translation 89b108b584c61c3f… (all of the seat's roots in one cut). By AI agents, Wed Nov 11 2026. No macro, syntax, notation, axiom, sorry.
-/
import Derived.Test.YtmnoohpkjgjphaaDoorChecked
import GoSem.Claim
import GoSem.ClaimJoined
import GoSem.ClaimMapViews
import Derived.JoinedTies
import Derived.KernelRfl
namespace Go.Proofs.YtmnoohpkjgjphaaDoor
/- THE CELL 'sum', in the pinned program and in every row, IS THE sha256 OF THE DUMP (.gsa) THAT YtmnoohpkjgjphaaDoorProg.lean LOADS. Nothing in Lean hashes anything: it is a label: what it is worth is what the hold of that sum in a sandbox is worth. -/
noncomputable def Tryd.pinned : Pinned := { name := "ytmnoohpkjgjphaadoor", sum := "89b108b584c61c3f53542516897575712abccee30b2fa92643db111e0cb0b9b2", checked := Tryd.checked }
namespace Rows
def none {H : Type} : Left H := { results := [], args := [] }

/- WHAT THE LISTED PACKAGE-LEVEL VARIABLES READ AS WHEN THE CALL BEGINS. Each datum BY PROGRAM (the guide's laid-datum.mjs) off the statement by which the dump's own 'gosem.cut.vars' lays the variable. In a bare row this is a premise. The card (YtmnoohpkjgjphaaDoorCards.lean) ties it to the program's text. -/
def laid_math_bits_deBruijn32tab {H : Type} : DataW H := .agg [.lit (.int .u8 0), .lit (.int .u8 1), .lit (.int .u8 28), .lit (.int .u8 2), .lit (.int .u8 29), .lit (.int .u8 14), .lit (.int .u8 24), .lit (.int .u8 3), .lit (.int .u8 30), .lit (.int .u8 22), .lit (.int .u8 20), .lit (.int .u8 15), .lit (.int .u8 25), .lit (.int .u8 17), .lit (.int .u8 4), .lit (.int .u8 8), .lit (.int .u8 31), .lit (.int .u8 27), .lit (.int .u8 13), .lit (.int .u8 23), .lit (.int .u8 21), .lit (.int .u8 19), .lit (.int .u8 16), .lit (.int .u8 7), .lit (.int .u8 26), .lit (.int .u8 12), .lit (.int .u8 18), .lit (.int .u8 6), .lit (.int .u8 11), .lit (.int .u8 5), .lit (.int .u8 10), .lit (.int .u8 9)]
def laid_math_bits_deBruijn64tab {H : Type} : DataW H := .agg [.lit (.int .u8 0), .lit (.int .u8 1), .lit (.int .u8 56), .lit (.int .u8 2), .lit (.int .u8 57), .lit (.int .u8 49), .lit (.int .u8 28), .lit (.int .u8 3), .lit (.int .u8 61), .lit (.int .u8 58), .lit (.int .u8 42), .lit (.int .u8 50), .lit (.int .u8 38), .lit (.int .u8 29), .lit (.int .u8 17), .lit (.int .u8 4), .lit (.int .u8 62), .lit (.int .u8 47), .lit (.int .u8 59), .lit (.int .u8 36), .lit (.int .u8 45), .lit (.int .u8 43), .lit (.int .u8 51), .lit (.int .u8 22), .lit (.int .u8 53), .lit (.int .u8 39), .lit (.int .u8 33), .lit (.int .u8 30), .lit (.int .u8 24), .lit (.int .u8 18), .lit (.int .u8 12), .lit (.int .u8 5), .lit (.int .u8 63), .lit (.int .u8 55), .lit (.int .u8 48), .lit (.int .u8 27), .lit (.int .u8 60), .lit (.int .u8 41), .lit (.int .u8 37), .lit (.int .u8 16), .lit (.int .u8 46), .lit (.int .u8 35), .lit (.int .u8 44), .lit (.int .u8 21), .lit (.int .u8 52), .lit (.int .u8 32), .lit (.int .u8 23), .lit (.int .u8 11), .lit (.int .u8 54), .lit (.int .u8 26), .lit (.int .u8 40), .lit (.int .u8 15), .lit (.int .u8 34), .lit (.int .u8 20), .lit (.int .u8 31), .lit (.int .u8 10), .lit (.int .u8 25), .lit (.int .u8 14), .lit (.int .u8 19), .lit (.int .u8 9), .lit (.int .u8 13), .lit (.int .u8 8), .lit (.int .u8 7), .lit (.int .u8 6)]
def laid_internal_strconv_uint64pow10 {H : Type} : DataW H := .agg [.lit (.int .u64 1), .lit (.int .u64 10), .lit (.int .u64 100), .lit (.int .u64 1000), .lit (.int .u64 10000), .lit (.int .u64 100000), .lit (.int .u64 1000000), .lit (.int .u64 10000000), .lit (.int .u64 100000000), .lit (.int .u64 1000000000), .lit (.int .u64 10000000000), .lit (.int .u64 100000000000), .lit (.int .u64 1000000000000), .lit (.int .u64 10000000000000), .lit (.int .u64 100000000000000), .lit (.int .u64 1000000000000000), .lit (.int .u64 10000000000000000), .lit (.int .u64 100000000000000000), .lit (.int .u64 1000000000000000000), .lit (.int .u64 10000000000000000000)]
def laid_lockstitch_code_operations {H : Type} : DataW H := .agg [.agg [.lit (.int .u8 1), .lit (.string [115, 101, 116]), .lit (.string [65, 78])], .agg [.lit (.int .u8 2), .lit (.string [97, 100, 100]), .lit (.string [65, 66, 67])], .agg [.lit (.int .u8 3), .lit (.string [106, 117, 109, 112]), .lit (.string [78])], .agg [.lit (.int .u8 4), .lit (.string [122, 101, 114, 111]), .lit (.string [65, 78])], .agg [.lit (.int .u8 5), .lit (.string [110, 101, 119]), .lit (.string [65])], .agg [.lit (.int .u8 6), .lit (.string [110, 105, 108]), .lit (.string [65])], .agg [.lit (.int .u8 7), .lit (.string [109, 111, 118, 101]), .lit (.string [65, 66])], .agg [.lit (.int .u8 8), .lit (.string [108, 111, 97, 100, 105]), .lit (.string [65, 66, 78])], .agg [.lit (.int .u8 9), .lit (.string [115, 116, 111, 114, 101, 105]), .lit (.string [65, 78, 66])], .agg [.lit (.int .u8 10), .lit (.string [108, 111, 97, 100, 112]), .lit (.string [65, 66, 78])], .agg [.lit (.int .u8 11), .lit (.string [115, 116, 111, 114, 101, 112]), .lit (.string [65, 78, 66])], .agg [.lit (.int .u8 12), .lit (.string [108, 111, 97, 100, 103]), .lit (.string [65, 66])], .agg [.lit (.int .u8 13), .lit (.string [115, 116, 111, 114, 101, 103]), .lit (.string [65, 66])], .agg [.lit (.int .u8 14), .lit (.string [112, 114, 105, 110, 116]), .lit (.string [65])], .agg [.lit (.int .u8 15), .lit (.string [115, 97, 109, 101]), .lit (.string [65, 66, 67])]]

/-- 'lockstitchlaw06.ModelSteps': WHATEVER THE INPUT: true; the input reads as it did. -/
def modelStepsSpec : ChangeSpec := { name := "modelSteps", fn := fun _ => fun
  | [d1, d2] => { results := [.lit (.bool true)], args := [d1, d2] }
  | _ => none }
def modelStepsRow : OpenClaim := { program := "ytmnoohpkjgjphaadoor", sum := "89b108b584c61c3f53542516897575712abccee30b2fa92643db111e0cb0b9b2", func := "lockstitch/lockstitchlaw06.ModelSteps", spec := "modelSteps", named := ["lockstitch/code.operations", "internal/strconv.uint64pow10", "math/bits.deBruijn32tab", "math/bits.deBruijn64tab"], apart := false, laid := [("math/bits.deBruijn32tab", laid_math_bits_deBruijn32tab), ("math/bits.deBruijn64tab", laid_math_bits_deBruijn64tab), ("internal/strconv.uint64pow10", laid_internal_strconv_uint64pow10), ("lockstitch/code.operations", laid_lockstitch_code_operations)] }
def ModelStepsSaid : Prop := modelStepsRow.holds Tryd.pinned (OpenSpec.ofChange modelStepsSpec)

/-- ITS FALSE NEIGHBOUR: 'it returns false'. Refute it at one input. -/
def modelStepsWrong : ChangeSpec := { name := "modelSteps", fn := fun _ => fun
  | [d1, d2] => { results := [.lit (.bool false)], args := [d1, d2] }
  | _ => none }
def ModelStepsWrongFalsely : Prop := modelStepsRow.holds Tryd.pinned (OpenSpec.ofChange modelStepsWrong)

/-- 'lockstitchlaw06.ModelRuns': WHATEVER THE INPUT: true; the input reads as it did. -/
def modelRunsSpec : ChangeSpec := { name := "modelRuns", fn := fun _ => fun
  | [d1, d2] => { results := [.lit (.bool true)], args := [d1, d2] }
  | _ => none }
def modelRunsRow : OpenClaim := { program := "ytmnoohpkjgjphaadoor", sum := "89b108b584c61c3f53542516897575712abccee30b2fa92643db111e0cb0b9b2", func := "lockstitch/lockstitchlaw06.ModelRuns", spec := "modelRuns", named := ["lockstitch/code.operations", "internal/strconv.uint64pow10", "math/bits.deBruijn32tab", "math/bits.deBruijn64tab"], apart := false, laid := [("math/bits.deBruijn32tab", laid_math_bits_deBruijn32tab), ("math/bits.deBruijn64tab", laid_math_bits_deBruijn64tab), ("internal/strconv.uint64pow10", laid_internal_strconv_uint64pow10), ("lockstitch/code.operations", laid_lockstitch_code_operations)] }
def ModelRunsSaid : Prop := modelRunsRow.holds Tryd.pinned (OpenSpec.ofChange modelRunsSpec)

/-- ITS FALSE NEIGHBOUR: 'it returns false'. Refute it at one input. -/
def modelRunsWrong : ChangeSpec := { name := "modelRuns", fn := fun _ => fun
  | [d1, d2] => { results := [.lit (.bool false)], args := [d1, d2] }
  | _ => none }
def ModelRunsWrongFalsely : Prop := modelRunsRow.holds Tryd.pinned (OpenSpec.ofChange modelRunsWrong)

/-- 'lockstitchlaw06.ModelFurther': WHATEVER THE INPUT: true; the input reads as it did. -/
def modelFurtherSpec : ChangeSpec := { name := "modelFurther", fn := fun _ => fun
  | [d1, d2, d3] => { results := [.lit (.bool true)], args := [d1, d2, d3] }
  | _ => none }
def modelFurtherRow : OpenClaim := { program := "ytmnoohpkjgjphaadoor", sum := "89b108b584c61c3f53542516897575712abccee30b2fa92643db111e0cb0b9b2", func := "lockstitch/lockstitchlaw06.ModelFurther", spec := "modelFurther", named := ["lockstitch/code.operations"], apart := false, laid := [("lockstitch/code.operations", laid_lockstitch_code_operations)] }
def ModelFurtherSaid : Prop := modelFurtherRow.holds Tryd.pinned (OpenSpec.ofChange modelFurtherSpec)

/-- ITS FALSE NEIGHBOUR: 'it returns false'. Refute it at one input. -/
def modelFurtherWrong : ChangeSpec := { name := "modelFurther", fn := fun _ => fun
  | [d1, d2, d3] => { results := [.lit (.bool false)], args := [d1, d2, d3] }
  | _ => none }
def ModelFurtherWrongFalsely : Prop := modelFurtherRow.holds Tryd.pinned (OpenSpec.ofChange modelFurtherWrong)

/-- 'lockstitchlaw06.ModelRight': WHATEVER THE INPUT: true; the input reads as it did. -/
def modelRightSpec : ChangeSpec := { name := "modelRight", fn := fun _ => fun
  | [d1, d2] => { results := [.lit (.bool true)], args := [d1, d2] }
  | _ => none }
def modelRightRow : OpenClaim := { program := "ytmnoohpkjgjphaadoor", sum := "89b108b584c61c3f53542516897575712abccee30b2fa92643db111e0cb0b9b2", func := "lockstitch/lockstitchlaw06.ModelRight", spec := "modelRight", named := ["lockstitch/code.operations", "internal/strconv.uint64pow10", "math/bits.deBruijn32tab", "math/bits.deBruijn64tab"], apart := false, laid := [("math/bits.deBruijn32tab", laid_math_bits_deBruijn32tab), ("math/bits.deBruijn64tab", laid_math_bits_deBruijn64tab), ("internal/strconv.uint64pow10", laid_internal_strconv_uint64pow10), ("lockstitch/code.operations", laid_lockstitch_code_operations)] }
def ModelRightSaid : Prop := modelRightRow.holds Tryd.pinned (OpenSpec.ofChange modelRightSpec)

/-- ITS FALSE NEIGHBOUR: 'it returns false'. Refute it at one input. -/
def modelRightWrong : ChangeSpec := { name := "modelRight", fn := fun _ => fun
  | [d1, d2] => { results := [.lit (.bool false)], args := [d1, d2] }
  | _ => none }
def ModelRightWrongFalsely : Prop := modelRightRow.holds Tryd.pinned (OpenSpec.ofChange modelRightWrong)

/-- 'lockstitchlaw06.ModelMakes': WHATEVER THE INPUT: true; the input reads as it did. -/
def modelMakesSpec : ChangeSpec := { name := "modelMakes", fn := fun _ => fun
  | [d1, d2] => { results := [.lit (.bool true)], args := [d1, d2] }
  | _ => none }
def modelMakesRow : OpenClaim := { program := "ytmnoohpkjgjphaadoor", sum := "89b108b584c61c3f53542516897575712abccee30b2fa92643db111e0cb0b9b2", func := "lockstitch/lockstitchlaw06.ModelMakes", spec := "modelMakes", named := ["lockstitch/code.operations", "internal/strconv.uint64pow10", "math/bits.deBruijn32tab", "math/bits.deBruijn64tab"], apart := false, laid := [("math/bits.deBruijn32tab", laid_math_bits_deBruijn32tab), ("math/bits.deBruijn64tab", laid_math_bits_deBruijn64tab), ("internal/strconv.uint64pow10", laid_internal_strconv_uint64pow10), ("lockstitch/code.operations", laid_lockstitch_code_operations)] }
def ModelMakesSaid : Prop := modelMakesRow.holds Tryd.pinned (OpenSpec.ofChange modelMakesSpec)

/-- ITS FALSE NEIGHBOUR: 'it returns false'. Refute it at one input. -/
def modelMakesWrong : ChangeSpec := { name := "modelMakes", fn := fun _ => fun
  | [d1, d2] => { results := [.lit (.bool false)], args := [d1, d2] }
  | _ => none }
def ModelMakesWrongFalsely : Prop := modelMakesRow.holds Tryd.pinned (OpenSpec.ofChange modelMakesWrong)

/-- 'lockstitchlaw06.ModelPieces': WHATEVER THE INPUT: true; the input reads as it did. -/
def modelPiecesSpec : ChangeSpec := { name := "modelPieces", fn := fun _ => fun
  | [d1, d2] => { results := [.lit (.bool true)], args := [d1, d2] }
  | _ => none }
def modelPiecesRow : OpenClaim := { program := "ytmnoohpkjgjphaadoor", sum := "89b108b584c61c3f53542516897575712abccee30b2fa92643db111e0cb0b9b2", func := "lockstitch/lockstitchlaw06.ModelPieces", spec := "modelPieces", named := ["lockstitch/code.operations"], apart := false, laid := [("lockstitch/code.operations", laid_lockstitch_code_operations)] }
def ModelPiecesSaid : Prop := modelPiecesRow.holds Tryd.pinned (OpenSpec.ofChange modelPiecesSpec)

/-- ITS FALSE NEIGHBOUR: 'it returns false'. Refute it at one input. -/
def modelPiecesWrong : ChangeSpec := { name := "modelPieces", fn := fun _ => fun
  | [d1, d2] => { results := [.lit (.bool false)], args := [d1, d2] }
  | _ => none }
def ModelPiecesWrongFalsely : Prop := modelPiecesRow.holds Tryd.pinned (OpenSpec.ofChange modelPiecesWrong)

/-- 'lockstitchlaw06.ModelEnd': WHATEVER THE INPUT: true; the input reads as it did. -/
def modelEndSpec : ChangeSpec := { name := "modelEnd", fn := fun _ => fun
  | [d1, d2] => { results := [.lit (.bool true)], args := [d1, d2] }
  | _ => none }
def modelEndRow : OpenClaim := { program := "ytmnoohpkjgjphaadoor", sum := "89b108b584c61c3f53542516897575712abccee30b2fa92643db111e0cb0b9b2", func := "lockstitch/lockstitchlaw06.ModelEnd", spec := "modelEnd", named := ["lockstitch/code.operations"], apart := false, laid := [("lockstitch/code.operations", laid_lockstitch_code_operations)] }
def ModelEndSaid : Prop := modelEndRow.holds Tryd.pinned (OpenSpec.ofChange modelEndSpec)

/-- ITS FALSE NEIGHBOUR: 'it returns false'. Refute it at one input. -/
def modelEndWrong : ChangeSpec := { name := "modelEnd", fn := fun _ => fun
  | [d1, d2] => { results := [.lit (.bool false)], args := [d1, d2] }
  | _ => none }
def ModelEndWrongFalsely : Prop := modelEndRow.holds Tryd.pinned (OpenSpec.ofChange modelEndWrong)

/- THE SECOND FORM. 'bulk': how many values and letters a reading holds, each counted each time it is reached (what is shared counts as often as it is met; a slice's spare places count too). A statement '..UptoSaid' is the law's where the arguments, and the package variables that the reading takes, are together of bulk at most 1048576: NARROWER than '..Said'. Prove '..Said' where nothing that the law and all that it calls make is longer than what came in: it says more and counts as full. Else prove '..UptoSaid'. A law counts once. -/
mutual
def uptoBulk {H : Type} : DataW H → Nat
  | .lit (.string bytes) => bytes.length + 1
  | .lit _ => 1
  | .nil => 1
  | .ptr d => uptoBulk d + 1
  | .slice elems spare => uptoBulkAll elems + uptoBulkAll spare + 1
  | .agg parts => uptoBulkAll parts + 1
  | .iface _ d => uptoBulk d + 1
  | .map entries => uptoBulkEntries entries + 1
  | .held _ => 1
def uptoBulkAll {H : Type} : List (DataW H) → Nat
  | [] => 0
  | d :: r => uptoBulk d + uptoBulkAll r
def uptoBulkEntries {H : Type} : List (Lit × DataW H) → Nat
  | [] => 0
  | x :: r => uptoBulkEntry x + uptoBulkEntries r
def uptoBulkEntry {H : Type} : Lit × DataW H → Nat
  | (.string bytes, d) => bytes.length + uptoBulk d + 1
  | (_, d) => uptoBulk d + 1
 end
def uptoSmall : (H : Type) → List (DataW H) → Bool := fun _ ds => decide (uptoBulkAll ds ≤ 1048576)
def OpenSpec.upto (s : _root_.Go.ChangeSpec) : _root_.Go.OpenSpec := { _root_.Go.OpenSpec.ofChange s with cond := some uptoSmall }

/-- 'lockstitchlaw06.ModelSteps', WHERE WHAT IT READS IS OF BULK AT MOST 1048576: true; the input reads as it did. -/
def modelStepsUptoRow : OpenClaim := { program := "ytmnoohpkjgjphaadoor", sum := "89b108b584c61c3f53542516897575712abccee30b2fa92643db111e0cb0b9b2", func := "lockstitch/lockstitchlaw06.ModelSteps", spec := "modelSteps", named := ["lockstitch/code.operations", "internal/strconv.uint64pow10", "math/bits.deBruijn32tab", "math/bits.deBruijn64tab"], apart := false, laid := [("math/bits.deBruijn32tab", laid_math_bits_deBruijn32tab), ("math/bits.deBruijn64tab", laid_math_bits_deBruijn64tab), ("internal/strconv.uint64pow10", laid_internal_strconv_uint64pow10), ("lockstitch/code.operations", laid_lockstitch_code_operations)], narrowed := true }
def ModelStepsUptoSaid : Prop := modelStepsUptoRow.holds Tryd.pinned (OpenSpec.upto modelStepsSpec)

/-- 'lockstitchlaw06.ModelRuns', WHERE WHAT IT READS IS OF BULK AT MOST 1048576: true; the input reads as it did. -/
def modelRunsUptoRow : OpenClaim := { program := "ytmnoohpkjgjphaadoor", sum := "89b108b584c61c3f53542516897575712abccee30b2fa92643db111e0cb0b9b2", func := "lockstitch/lockstitchlaw06.ModelRuns", spec := "modelRuns", named := ["lockstitch/code.operations", "internal/strconv.uint64pow10", "math/bits.deBruijn32tab", "math/bits.deBruijn64tab"], apart := false, laid := [("math/bits.deBruijn32tab", laid_math_bits_deBruijn32tab), ("math/bits.deBruijn64tab", laid_math_bits_deBruijn64tab), ("internal/strconv.uint64pow10", laid_internal_strconv_uint64pow10), ("lockstitch/code.operations", laid_lockstitch_code_operations)], narrowed := true }
def ModelRunsUptoSaid : Prop := modelRunsUptoRow.holds Tryd.pinned (OpenSpec.upto modelRunsSpec)

/-- 'lockstitchlaw06.ModelFurther', WHERE WHAT IT READS IS OF BULK AT MOST 1048576: true; the input reads as it did. -/
def modelFurtherUptoRow : OpenClaim := { program := "ytmnoohpkjgjphaadoor", sum := "89b108b584c61c3f53542516897575712abccee30b2fa92643db111e0cb0b9b2", func := "lockstitch/lockstitchlaw06.ModelFurther", spec := "modelFurther", named := ["lockstitch/code.operations"], apart := false, laid := [("lockstitch/code.operations", laid_lockstitch_code_operations)], narrowed := true }
def ModelFurtherUptoSaid : Prop := modelFurtherUptoRow.holds Tryd.pinned (OpenSpec.upto modelFurtherSpec)

/-- 'lockstitchlaw06.ModelRight', WHERE WHAT IT READS IS OF BULK AT MOST 1048576: true; the input reads as it did. -/
def modelRightUptoRow : OpenClaim := { program := "ytmnoohpkjgjphaadoor", sum := "89b108b584c61c3f53542516897575712abccee30b2fa92643db111e0cb0b9b2", func := "lockstitch/lockstitchlaw06.ModelRight", spec := "modelRight", named := ["lockstitch/code.operations", "internal/strconv.uint64pow10", "math/bits.deBruijn32tab", "math/bits.deBruijn64tab"], apart := false, laid := [("math/bits.deBruijn32tab", laid_math_bits_deBruijn32tab), ("math/bits.deBruijn64tab", laid_math_bits_deBruijn64tab), ("internal/strconv.uint64pow10", laid_internal_strconv_uint64pow10), ("lockstitch/code.operations", laid_lockstitch_code_operations)], narrowed := true }
def ModelRightUptoSaid : Prop := modelRightUptoRow.holds Tryd.pinned (OpenSpec.upto modelRightSpec)

/-- 'lockstitchlaw06.ModelMakes', WHERE WHAT IT READS IS OF BULK AT MOST 1048576: true; the input reads as it did. -/
def modelMakesUptoRow : OpenClaim := { program := "ytmnoohpkjgjphaadoor", sum := "89b108b584c61c3f53542516897575712abccee30b2fa92643db111e0cb0b9b2", func := "lockstitch/lockstitchlaw06.ModelMakes", spec := "modelMakes", named := ["lockstitch/code.operations", "internal/strconv.uint64pow10", "math/bits.deBruijn32tab", "math/bits.deBruijn64tab"], apart := false, laid := [("math/bits.deBruijn32tab", laid_math_bits_deBruijn32tab), ("math/bits.deBruijn64tab", laid_math_bits_deBruijn64tab), ("internal/strconv.uint64pow10", laid_internal_strconv_uint64pow10), ("lockstitch/code.operations", laid_lockstitch_code_operations)], narrowed := true }
def ModelMakesUptoSaid : Prop := modelMakesUptoRow.holds Tryd.pinned (OpenSpec.upto modelMakesSpec)

/-- 'lockstitchlaw06.ModelPieces', WHERE WHAT IT READS IS OF BULK AT MOST 1048576: true; the input reads as it did. -/
def modelPiecesUptoRow : OpenClaim := { program := "ytmnoohpkjgjphaadoor", sum := "89b108b584c61c3f53542516897575712abccee30b2fa92643db111e0cb0b9b2", func := "lockstitch/lockstitchlaw06.ModelPieces", spec := "modelPieces", named := ["lockstitch/code.operations"], apart := false, laid := [("lockstitch/code.operations", laid_lockstitch_code_operations)], narrowed := true }
def ModelPiecesUptoSaid : Prop := modelPiecesUptoRow.holds Tryd.pinned (OpenSpec.upto modelPiecesSpec)

/-- 'lockstitchlaw06.ModelEnd', WHERE WHAT IT READS IS OF BULK AT MOST 1048576: true; the input reads as it did. -/
def modelEndUptoRow : OpenClaim := { program := "ytmnoohpkjgjphaadoor", sum := "89b108b584c61c3f53542516897575712abccee30b2fa92643db111e0cb0b9b2", func := "lockstitch/lockstitchlaw06.ModelEnd", spec := "modelEnd", named := ["lockstitch/code.operations"], apart := false, laid := [("lockstitch/code.operations", laid_lockstitch_code_operations)], narrowed := true }
def ModelEndUptoSaid : Prop := modelEndUptoRow.holds Tryd.pinned (OpenSpec.upto modelEndSpec)

end Rows
end Go.Proofs.YtmnoohpkjgjphaaDoor
