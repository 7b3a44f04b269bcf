/-
  NARROWER THAN 'FOR EVERY INPUT', by the rows' own cells (each row's printed sentence says how): PlanFits: laid · PlanPlain: laid · PlanOnce: laid · PlanKinds: laid.
  DERIVED. THE GIVEN ROWS OF THIS SEAT. 4 by the template 'for every input the law returns true; each argument reads behind the call as it read before'; 0 by the template 'total and deterministic' (their statements: YtapjgobkpehgfaaGreatDoorTotals.lean).
  GIVEN WITH THE SEED: the statements are not yours to turn. If you find one false, say at which input.
  Laid BY PROGRAM, IN A SANDBOX (cutbox-rows.mjs): the forced cells as the released guide's own fill.sh prints them over the translation 2cffe69e8f30aedc… (all of the seat's roots in one cut). By AI agents, Wed Nov 11 2026. No macro, syntax, notation, axiom, sorry.
-/
import Derived.Test.YtapjgobkpehgfaaGreatDoorChecked
import GoSem.Claim
import GoSem.ClaimJoined
import GoSem.ClaimMapViews
import Derived.JoinedTies
import Derived.KernelRfl
namespace Go.Proofs.YtapjgobkpehgfaaGreatDoor
/- THE CELL 'sum', in the pinned program and in every row, IS THE sha256 OF THE DUMP (.gsa) THAT YtapjgobkpehgfaaGreatDoorProg.lean LOADS. Nothing in Lean hashes anything: it is a label: what it is worth is what the hold of that sum in a sandbox is worth. -/
noncomputable def Tryz.pinned : Pinned := { name := "ytapjgobkpehgfaagreatdoor", sum := "2cffe69e8f30aedc336cc5b6366ce580cbfbd9953c310cc89395ff83b2769a40", checked := Tryz.checked }
namespace Rows
def none {H : Type} : Left H := { results := [], args := [] }

/- WHAT THE LISTED PACKAGE-LEVEL VARIABLES READ AS WHEN THE CALL BEGINS. Each datum BY PROGRAM (the guide's laid-datum.mjs) off the statement by which the dump's own 'gosem.cut.vars' lays the variable. In a bare row this is a premise. The card (YtapjgobkpehgfaaGreatDoorCards.lean) ties it to the program's text. -/
def laid_math_bits_deBruijn32tab {H : Type} : DataW H := .agg [.lit (.int .u8 0), .lit (.int .u8 1), .lit (.int .u8 28), .lit (.int .u8 2), .lit (.int .u8 29), .lit (.int .u8 14), .lit (.int .u8 24), .lit (.int .u8 3), .lit (.int .u8 30), .lit (.int .u8 22), .lit (.int .u8 20), .lit (.int .u8 15), .lit (.int .u8 25), .lit (.int .u8 17), .lit (.int .u8 4), .lit (.int .u8 8), .lit (.int .u8 31), .lit (.int .u8 27), .lit (.int .u8 13), .lit (.int .u8 23), .lit (.int .u8 21), .lit (.int .u8 19), .lit (.int .u8 16), .lit (.int .u8 7), .lit (.int .u8 26), .lit (.int .u8 12), .lit (.int .u8 18), .lit (.int .u8 6), .lit (.int .u8 11), .lit (.int .u8 5), .lit (.int .u8 10), .lit (.int .u8 9)]
def laid_math_bits_deBruijn64tab {H : Type} : DataW H := .agg [.lit (.int .u8 0), .lit (.int .u8 1), .lit (.int .u8 56), .lit (.int .u8 2), .lit (.int .u8 57), .lit (.int .u8 49), .lit (.int .u8 28), .lit (.int .u8 3), .lit (.int .u8 61), .lit (.int .u8 58), .lit (.int .u8 42), .lit (.int .u8 50), .lit (.int .u8 38), .lit (.int .u8 29), .lit (.int .u8 17), .lit (.int .u8 4), .lit (.int .u8 62), .lit (.int .u8 47), .lit (.int .u8 59), .lit (.int .u8 36), .lit (.int .u8 45), .lit (.int .u8 43), .lit (.int .u8 51), .lit (.int .u8 22), .lit (.int .u8 53), .lit (.int .u8 39), .lit (.int .u8 33), .lit (.int .u8 30), .lit (.int .u8 24), .lit (.int .u8 18), .lit (.int .u8 12), .lit (.int .u8 5), .lit (.int .u8 63), .lit (.int .u8 55), .lit (.int .u8 48), .lit (.int .u8 27), .lit (.int .u8 60), .lit (.int .u8 41), .lit (.int .u8 37), .lit (.int .u8 16), .lit (.int .u8 46), .lit (.int .u8 35), .lit (.int .u8 44), .lit (.int .u8 21), .lit (.int .u8 52), .lit (.int .u8 32), .lit (.int .u8 23), .lit (.int .u8 11), .lit (.int .u8 54), .lit (.int .u8 26), .lit (.int .u8 40), .lit (.int .u8 15), .lit (.int .u8 34), .lit (.int .u8 20), .lit (.int .u8 31), .lit (.int .u8 10), .lit (.int .u8 25), .lit (.int .u8 14), .lit (.int .u8 19), .lit (.int .u8 9), .lit (.int .u8 13), .lit (.int .u8 8), .lit (.int .u8 7), .lit (.int .u8 6)]
def laid_internal_strconv_uint64pow10 {H : Type} : DataW H := .agg [.lit (.int .u64 1), .lit (.int .u64 10), .lit (.int .u64 100), .lit (.int .u64 1000), .lit (.int .u64 10000), .lit (.int .u64 100000), .lit (.int .u64 1000000), .lit (.int .u64 10000000), .lit (.int .u64 100000000), .lit (.int .u64 1000000000), .lit (.int .u64 10000000000), .lit (.int .u64 100000000000), .lit (.int .u64 1000000000000), .lit (.int .u64 10000000000000), .lit (.int .u64 100000000000000), .lit (.int .u64 1000000000000000), .lit (.int .u64 10000000000000000), .lit (.int .u64 100000000000000000), .lit (.int .u64 1000000000000000000), .lit (.int .u64 10000000000000000000)]
def laid_lockstitch_code_operations {H : Type} : DataW H := .agg [.agg [.lit (.int .u8 1), .lit (.string [115, 101, 116]), .lit (.string [65, 78])], .agg [.lit (.int .u8 2), .lit (.string [97, 100, 100]), .lit (.string [65, 66, 67])], .agg [.lit (.int .u8 3), .lit (.string [106, 117, 109, 112]), .lit (.string [78])], .agg [.lit (.int .u8 4), .lit (.string [122, 101, 114, 111]), .lit (.string [65, 78])], .agg [.lit (.int .u8 5), .lit (.string [110, 101, 119]), .lit (.string [65])], .agg [.lit (.int .u8 6), .lit (.string [110, 105, 108]), .lit (.string [65])], .agg [.lit (.int .u8 7), .lit (.string [109, 111, 118, 101]), .lit (.string [65, 66])], .agg [.lit (.int .u8 8), .lit (.string [108, 111, 97, 100, 105]), .lit (.string [65, 66, 78])], .agg [.lit (.int .u8 9), .lit (.string [115, 116, 111, 114, 101, 105]), .lit (.string [65, 78, 66])], .agg [.lit (.int .u8 10), .lit (.string [108, 111, 97, 100, 112]), .lit (.string [65, 66, 78])], .agg [.lit (.int .u8 11), .lit (.string [115, 116, 111, 114, 101, 112]), .lit (.string [65, 78, 66])], .agg [.lit (.int .u8 12), .lit (.string [108, 111, 97, 100, 103]), .lit (.string [65, 66])], .agg [.lit (.int .u8 13), .lit (.string [115, 116, 111, 114, 101, 103]), .lit (.string [65, 66])], .agg [.lit (.int .u8 14), .lit (.string [112, 114, 105, 110, 116]), .lit (.string [65])], .agg [.lit (.int .u8 15), .lit (.string [115, 97, 109, 101]), .lit (.string [65, 66, 67])]]

/-- 'lockstitchlaw12.PlanFits': WHATEVER THE INPUT: true; the input reads as it did. -/
def planFitsSpec : ChangeSpec := { name := "planFits", fn := fun _ => fun
  | [d1, d2, d3] => { results := [.lit (.bool true)], args := [d1, d2, d3] }
  | _ => none }
def planFitsRow : OpenClaim := { program := "ytapjgobkpehgfaagreatdoor", sum := "2cffe69e8f30aedc336cc5b6366ce580cbfbd9953c310cc89395ff83b2769a40", func := "lockstitch/lockstitchlaw12.PlanFits", spec := "planFits", unfollowed := true, recurses := true, named := ["lockstitch/code.operations", "internal/strconv.uint64pow10", "math/bits.deBruijn32tab", "math/bits.deBruijn64tab"], apart := false, laid := [("math/bits.deBruijn32tab", laid_math_bits_deBruijn32tab), ("math/bits.deBruijn64tab", laid_math_bits_deBruijn64tab), ("internal/strconv.uint64pow10", laid_internal_strconv_uint64pow10), ("lockstitch/code.operations", laid_lockstitch_code_operations)] }
def PlanFitsSaid : Prop := planFitsRow.holds Tryz.pinned (OpenSpec.ofChange planFitsSpec)

/-- ITS FALSE NEIGHBOUR: 'it returns false'. Refute it at one input. -/
def planFitsWrong : ChangeSpec := { name := "planFits", fn := fun _ => fun
  | [d1, d2, d3] => { results := [.lit (.bool false)], args := [d1, d2, d3] }
  | _ => none }
def PlanFitsWrongFalsely : Prop := planFitsRow.holds Tryz.pinned (OpenSpec.ofChange planFitsWrong)

/-- 'lockstitchlaw12.PlanPlain': WHATEVER THE INPUT: true; the input reads as it did. -/
def planPlainSpec : ChangeSpec := { name := "planPlain", fn := fun _ => fun
  | [d1, d2] => { results := [.lit (.bool true)], args := [d1, d2] }
  | _ => none }
def planPlainRow : OpenClaim := { program := "ytapjgobkpehgfaagreatdoor", sum := "2cffe69e8f30aedc336cc5b6366ce580cbfbd9953c310cc89395ff83b2769a40", func := "lockstitch/lockstitchlaw12.PlanPlain", spec := "planPlain", unfollowed := true, recurses := true, named := ["internal/strconv.uint64pow10", "math/bits.deBruijn32tab", "math/bits.deBruijn64tab", "lockstitch/code.operations"], apart := false, laid := [("math/bits.deBruijn32tab", laid_math_bits_deBruijn32tab), ("math/bits.deBruijn64tab", laid_math_bits_deBruijn64tab), ("internal/strconv.uint64pow10", laid_internal_strconv_uint64pow10), ("lockstitch/code.operations", laid_lockstitch_code_operations)] }
def PlanPlainSaid : Prop := planPlainRow.holds Tryz.pinned (OpenSpec.ofChange planPlainSpec)

/-- ITS FALSE NEIGHBOUR: 'it returns false'. Refute it at one input. -/
def planPlainWrong : ChangeSpec := { name := "planPlain", fn := fun _ => fun
  | [d1, d2] => { results := [.lit (.bool false)], args := [d1, d2] }
  | _ => none }
def PlanPlainWrongFalsely : Prop := planPlainRow.holds Tryz.pinned (OpenSpec.ofChange planPlainWrong)

/-- 'lockstitchlaw12.PlanOnce': WHATEVER THE INPUT: true; the input reads as it did. -/
def planOnceSpec : ChangeSpec := { name := "planOnce", fn := fun _ => fun
  | [d1, d2] => { results := [.lit (.bool true)], args := [d1, d2] }
  | _ => none }
def planOnceRow : OpenClaim := { program := "ytapjgobkpehgfaagreatdoor", sum := "2cffe69e8f30aedc336cc5b6366ce580cbfbd9953c310cc89395ff83b2769a40", func := "lockstitch/lockstitchlaw12.PlanOnce", spec := "planOnce", unfollowed := true, recurses := true, named := ["internal/strconv.uint64pow10", "math/bits.deBruijn32tab", "math/bits.deBruijn64tab", "lockstitch/code.operations"], apart := false, laid := [("math/bits.deBruijn32tab", laid_math_bits_deBruijn32tab), ("math/bits.deBruijn64tab", laid_math_bits_deBruijn64tab), ("internal/strconv.uint64pow10", laid_internal_strconv_uint64pow10), ("lockstitch/code.operations", laid_lockstitch_code_operations)] }
def PlanOnceSaid : Prop := planOnceRow.holds Tryz.pinned (OpenSpec.ofChange planOnceSpec)

/-- ITS FALSE NEIGHBOUR: 'it returns false'. Refute it at one input. -/
def planOnceWrong : ChangeSpec := { name := "planOnce", fn := fun _ => fun
  | [d1, d2] => { results := [.lit (.bool false)], args := [d1, d2] }
  | _ => none }
def PlanOnceWrongFalsely : Prop := planOnceRow.holds Tryz.pinned (OpenSpec.ofChange planOnceWrong)

/-- 'lockstitchlaw12.PlanKinds': WHATEVER THE INPUT: true; the input reads as it did. -/
def planKindsSpec : ChangeSpec := { name := "planKinds", fn := fun _ => fun
  | [d] => { results := [.lit (.bool true)], args := [d] }
  | _ => none }
def planKindsRow : OpenClaim := { program := "ytapjgobkpehgfaagreatdoor", sum := "2cffe69e8f30aedc336cc5b6366ce580cbfbd9953c310cc89395ff83b2769a40", func := "lockstitch/lockstitchlaw12.PlanKinds", spec := "planKinds", unfollowed := true, recurses := true, named := ["lockstitch/code.operations", "internal/strconv.uint64pow10", "math/bits.deBruijn32tab", "math/bits.deBruijn64tab"], apart := false, laid := [("math/bits.deBruijn32tab", laid_math_bits_deBruijn32tab), ("math/bits.deBruijn64tab", laid_math_bits_deBruijn64tab), ("internal/strconv.uint64pow10", laid_internal_strconv_uint64pow10), ("lockstitch/code.operations", laid_lockstitch_code_operations)] }
def PlanKindsSaid : Prop := planKindsRow.holds Tryz.pinned (OpenSpec.ofChange planKindsSpec)

/-- ITS FALSE NEIGHBOUR: 'it returns false'. Refute it at one input. -/
def planKindsWrong : ChangeSpec := { name := "planKinds", fn := fun _ => fun
  | [d] => { results := [.lit (.bool false)], args := [d] }
  | _ => none }
def PlanKindsWrongFalsely : Prop := planKindsRow.holds Tryz.pinned (OpenSpec.ofChange planKindsWrong)

/- THE SECOND FORM. 'bulk': how many values and letters a reading holds, each counted each time it is reached (what is shared counts as often as it is met; a slice's spare places count too). A statement '..UptoSaid' is the law's where the arguments, and the package variables that the reading takes, are together of bulk at most 1048576: NARROWER than '..Said'. Prove '..Said' where nothing that the law and all that it calls make is longer than what came in: it says more and counts as full. Else prove '..UptoSaid'. A law counts once. -/
mutual
def uptoBulk {H : Type} : DataW H → Nat
  | .lit (.string bytes) => bytes.length + 1
  | .lit _ => 1
  | .nil => 1
  | .ptr d => uptoBulk d + 1
  | .slice elems spare => uptoBulkAll elems + uptoBulkAll spare + 1
  | .agg parts => uptoBulkAll parts + 1
  | .iface _ d => uptoBulk d + 1
  | .map entries => uptoBulkEntries entries + 1
  | .held _ => 1
def uptoBulkAll {H : Type} : List (DataW H) → Nat
  | [] => 0
  | d :: r => uptoBulk d + uptoBulkAll r
def uptoBulkEntries {H : Type} : List (Lit × DataW H) → Nat
  | [] => 0
  | x :: r => uptoBulkEntry x + uptoBulkEntries r
def uptoBulkEntry {H : Type} : Lit × DataW H → Nat
  | (.string bytes, d) => bytes.length + uptoBulk d + 1
  | (_, d) => uptoBulk d + 1
 end
def uptoSmall : (H : Type) → List (DataW H) → Bool := fun _ ds => decide (uptoBulkAll ds ≤ 1048576)
def OpenSpec.upto (s : _root_.Go.ChangeSpec) : _root_.Go.OpenSpec := { _root_.Go.OpenSpec.ofChange s with cond := some uptoSmall }

/-- 'lockstitchlaw12.PlanFits', WHERE WHAT IT READS IS OF BULK AT MOST 1048576: true; the input reads as it did. -/
def planFitsUptoRow : OpenClaim := { program := "ytapjgobkpehgfaagreatdoor", sum := "2cffe69e8f30aedc336cc5b6366ce580cbfbd9953c310cc89395ff83b2769a40", func := "lockstitch/lockstitchlaw12.PlanFits", spec := "planFits", unfollowed := true, recurses := true, named := ["lockstitch/code.operations", "internal/strconv.uint64pow10", "math/bits.deBruijn32tab", "math/bits.deBruijn64tab"], apart := false, laid := [("math/bits.deBruijn32tab", laid_math_bits_deBruijn32tab), ("math/bits.deBruijn64tab", laid_math_bits_deBruijn64tab), ("internal/strconv.uint64pow10", laid_internal_strconv_uint64pow10), ("lockstitch/code.operations", laid_lockstitch_code_operations)], narrowed := true }
def PlanFitsUptoSaid : Prop := planFitsUptoRow.holds Tryz.pinned (OpenSpec.upto planFitsSpec)

/-- 'lockstitchlaw12.PlanPlain', WHERE WHAT IT READS IS OF BULK AT MOST 1048576: true; the input reads as it did. -/
def planPlainUptoRow : OpenClaim := { program := "ytapjgobkpehgfaagreatdoor", sum := "2cffe69e8f30aedc336cc5b6366ce580cbfbd9953c310cc89395ff83b2769a40", func := "lockstitch/lockstitchlaw12.PlanPlain", spec := "planPlain", unfollowed := true, recurses := true, named := ["internal/strconv.uint64pow10", "math/bits.deBruijn32tab", "math/bits.deBruijn64tab", "lockstitch/code.operations"], apart := false, laid := [("math/bits.deBruijn32tab", laid_math_bits_deBruijn32tab), ("math/bits.deBruijn64tab", laid_math_bits_deBruijn64tab), ("internal/strconv.uint64pow10", laid_internal_strconv_uint64pow10), ("lockstitch/code.operations", laid_lockstitch_code_operations)], narrowed := true }
def PlanPlainUptoSaid : Prop := planPlainUptoRow.holds Tryz.pinned (OpenSpec.upto planPlainSpec)

/-- 'lockstitchlaw12.PlanOnce', WHERE WHAT IT READS IS OF BULK AT MOST 1048576: true; the input reads as it did. -/
def planOnceUptoRow : OpenClaim := { program := "ytapjgobkpehgfaagreatdoor", sum := "2cffe69e8f30aedc336cc5b6366ce580cbfbd9953c310cc89395ff83b2769a40", func := "lockstitch/lockstitchlaw12.PlanOnce", spec := "planOnce", unfollowed := true, recurses := true, named := ["internal/strconv.uint64pow10", "math/bits.deBruijn32tab", "math/bits.deBruijn64tab", "lockstitch/code.operations"], apart := false, laid := [("math/bits.deBruijn32tab", laid_math_bits_deBruijn32tab), ("math/bits.deBruijn64tab", laid_math_bits_deBruijn64tab), ("internal/strconv.uint64pow10", laid_internal_strconv_uint64pow10), ("lockstitch/code.operations", laid_lockstitch_code_operations)], narrowed := true }
def PlanOnceUptoSaid : Prop := planOnceUptoRow.holds Tryz.pinned (OpenSpec.upto planOnceSpec)

/-- 'lockstitchlaw12.PlanKinds', WHERE WHAT IT READS IS OF BULK AT MOST 1048576: true; the input reads as it did. -/
def planKindsUptoRow : OpenClaim := { program := "ytapjgobkpehgfaagreatdoor", sum := "2cffe69e8f30aedc336cc5b6366ce580cbfbd9953c310cc89395ff83b2769a40", func := "lockstitch/lockstitchlaw12.PlanKinds", spec := "planKinds", unfollowed := true, recurses := true, named := ["lockstitch/code.operations", "internal/strconv.uint64pow10", "math/bits.deBruijn32tab", "math/bits.deBruijn64tab"], apart := false, laid := [("math/bits.deBruijn32tab", laid_math_bits_deBruijn32tab), ("math/bits.deBruijn64tab", laid_math_bits_deBruijn64tab), ("internal/strconv.uint64pow10", laid_internal_strconv_uint64pow10), ("lockstitch/code.operations", laid_lockstitch_code_operations)], narrowed := true }
def PlanKindsUptoSaid : Prop := planKindsUptoRow.holds Tryz.pinned (OpenSpec.upto planKindsSpec)

end Rows
end Go.Proofs.YtapjgobkpehgfaaGreatDoor
