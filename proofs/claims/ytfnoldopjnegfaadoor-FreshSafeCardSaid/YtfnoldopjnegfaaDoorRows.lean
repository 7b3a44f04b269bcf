/-
  NARROWER THAN 'FOR EVERY INPUT', by the rows' own cells (each row's printed sentence says how): FreshTells: laid · FreshTrue: laid · FreshMeets: laid · FreshMore: laid · FreshSafe: laid · FreshOthers: laid · FreshNil: laid.
  DERIVED. THE GIVEN ROWS OF THIS SEAT. 7 by the template 'for every input the law returns true; each argument reads behind the call as it read before'; 0 by the template 'total and deterministic' (their statements: YtfnoldopjnegfaaDoorTotals.lean).
  GIVEN WITH THE SEED: the statements are not yours to turn. If you find one false, say at which input.
  Laid BY PROGRAM, IN A SANDBOX (cutbox-rows.mjs): the forced cells as the released guide's own fill.sh prints them over the translation 028ef482a736668f… (all of the seat's roots in one cut). By AI agents, Wed Nov 11 2026. No macro, syntax, notation, axiom, sorry.
-/
import Derived.Test.YtfnoldopjnegfaaDoorChecked
import GoSem.Claim
import GoSem.ClaimJoined
import GoSem.ClaimMapViews
import Derived.JoinedTies
import Derived.KernelRfl
namespace Go.Proofs.YtfnoldopjnegfaaDoor
/- THE CELL 'sum', in the pinned program and in every row, IS THE sha256 OF THE DUMP (.gsa) THAT YtfnoldopjnegfaaDoorProg.lean LOADS. Nothing in Lean hashes anything: it is a label: what it is worth is what the hold of that sum in a sandbox is worth. -/
noncomputable def Tryd.pinned : Pinned := { name := "ytfnoldopjnegfaadoor", sum := "028ef482a736668f019ad5d374dd3979abf5ea25bb329cd81f961250d1f884ed", checked := Tryd.checked }
namespace Rows
def none {H : Type} : Left H := { results := [], args := [] }

/- WHAT THE LISTED PACKAGE-LEVEL VARIABLES READ AS WHEN THE CALL BEGINS. Each datum BY PROGRAM (the guide's laid-datum.mjs) off the statement by which the dump's own 'gosem.cut.vars' lays the variable. In a bare row this is a premise. The card (YtfnoldopjnegfaaDoorCards.lean) ties it to the program's text. -/
def laid_math_bits_deBruijn32tab {H : Type} : DataW H := .agg [.lit (.int .u8 0), .lit (.int .u8 1), .lit (.int .u8 28), .lit (.int .u8 2), .lit (.int .u8 29), .lit (.int .u8 14), .lit (.int .u8 24), .lit (.int .u8 3), .lit (.int .u8 30), .lit (.int .u8 22), .lit (.int .u8 20), .lit (.int .u8 15), .lit (.int .u8 25), .lit (.int .u8 17), .lit (.int .u8 4), .lit (.int .u8 8), .lit (.int .u8 31), .lit (.int .u8 27), .lit (.int .u8 13), .lit (.int .u8 23), .lit (.int .u8 21), .lit (.int .u8 19), .lit (.int .u8 16), .lit (.int .u8 7), .lit (.int .u8 26), .lit (.int .u8 12), .lit (.int .u8 18), .lit (.int .u8 6), .lit (.int .u8 11), .lit (.int .u8 5), .lit (.int .u8 10), .lit (.int .u8 9)]
def laid_math_bits_deBruijn64tab {H : Type} : DataW H := .agg [.lit (.int .u8 0), .lit (.int .u8 1), .lit (.int .u8 56), .lit (.int .u8 2), .lit (.int .u8 57), .lit (.int .u8 49), .lit (.int .u8 28), .lit (.int .u8 3), .lit (.int .u8 61), .lit (.int .u8 58), .lit (.int .u8 42), .lit (.int .u8 50), .lit (.int .u8 38), .lit (.int .u8 29), .lit (.int .u8 17), .lit (.int .u8 4), .lit (.int .u8 62), .lit (.int .u8 47), .lit (.int .u8 59), .lit (.int .u8 36), .lit (.int .u8 45), .lit (.int .u8 43), .lit (.int .u8 51), .lit (.int .u8 22), .lit (.int .u8 53), .lit (.int .u8 39), .lit (.int .u8 33), .lit (.int .u8 30), .lit (.int .u8 24), .lit (.int .u8 18), .lit (.int .u8 12), .lit (.int .u8 5), .lit (.int .u8 63), .lit (.int .u8 55), .lit (.int .u8 48), .lit (.int .u8 27), .lit (.int .u8 60), .lit (.int .u8 41), .lit (.int .u8 37), .lit (.int .u8 16), .lit (.int .u8 46), .lit (.int .u8 35), .lit (.int .u8 44), .lit (.int .u8 21), .lit (.int .u8 52), .lit (.int .u8 32), .lit (.int .u8 23), .lit (.int .u8 11), .lit (.int .u8 54), .lit (.int .u8 26), .lit (.int .u8 40), .lit (.int .u8 15), .lit (.int .u8 34), .lit (.int .u8 20), .lit (.int .u8 31), .lit (.int .u8 10), .lit (.int .u8 25), .lit (.int .u8 14), .lit (.int .u8 19), .lit (.int .u8 9), .lit (.int .u8 13), .lit (.int .u8 8), .lit (.int .u8 7), .lit (.int .u8 6)]
def laid_internal_strconv_uint64pow10 {H : Type} : DataW H := .agg [.lit (.int .u64 1), .lit (.int .u64 10), .lit (.int .u64 100), .lit (.int .u64 1000), .lit (.int .u64 10000), .lit (.int .u64 100000), .lit (.int .u64 1000000), .lit (.int .u64 10000000), .lit (.int .u64 100000000), .lit (.int .u64 1000000000), .lit (.int .u64 10000000000), .lit (.int .u64 100000000000), .lit (.int .u64 1000000000000), .lit (.int .u64 10000000000000), .lit (.int .u64 100000000000000), .lit (.int .u64 1000000000000000), .lit (.int .u64 10000000000000000), .lit (.int .u64 100000000000000000), .lit (.int .u64 1000000000000000000), .lit (.int .u64 10000000000000000000)]

/-- 'lockstitchlaw09.FreshTells': WHATEVER THE INPUT: true; the input reads as it did. -/
def freshTellsSpec : ChangeSpec := { name := "freshTells", fn := fun _ => fun
  | [d1, d2, d3] => { results := [.lit (.bool true)], args := [d1, d2, d3] }
  | _ => none }
def freshTellsRow : OpenClaim := { program := "ytfnoldopjnegfaadoor", sum := "028ef482a736668f019ad5d374dd3979abf5ea25bb329cd81f961250d1f884ed", func := "lockstitch/lockstitchlaw09.FreshTells", spec := "freshTells", recurses := true, named := ["internal/strconv.uint64pow10", "math/bits.deBruijn32tab", "math/bits.deBruijn64tab"], apart := false, laid := [("math/bits.deBruijn32tab", laid_math_bits_deBruijn32tab), ("math/bits.deBruijn64tab", laid_math_bits_deBruijn64tab), ("internal/strconv.uint64pow10", laid_internal_strconv_uint64pow10)] }
def FreshTellsSaid : Prop := freshTellsRow.holds Tryd.pinned (OpenSpec.ofChange freshTellsSpec)

/-- ITS FALSE NEIGHBOUR: 'it returns false'. Refute it at one input. -/
def freshTellsWrong : ChangeSpec := { name := "freshTells", fn := fun _ => fun
  | [d1, d2, d3] => { results := [.lit (.bool false)], args := [d1, d2, d3] }
  | _ => none }
def FreshTellsWrongFalsely : Prop := freshTellsRow.holds Tryd.pinned (OpenSpec.ofChange freshTellsWrong)

/-- 'lockstitchlaw09.FreshTrue': WHATEVER THE INPUT: true; the input reads as it did. -/
def freshTrueSpec : ChangeSpec := { name := "freshTrue", fn := fun _ => fun
  | [d1, d2] => { results := [.lit (.bool true)], args := [d1, d2] }
  | _ => none }
def freshTrueRow : OpenClaim := { program := "ytfnoldopjnegfaadoor", sum := "028ef482a736668f019ad5d374dd3979abf5ea25bb329cd81f961250d1f884ed", func := "lockstitch/lockstitchlaw09.FreshTrue", spec := "freshTrue", recurses := true, named := ["internal/strconv.uint64pow10", "math/bits.deBruijn32tab", "math/bits.deBruijn64tab"], apart := false, laid := [("math/bits.deBruijn32tab", laid_math_bits_deBruijn32tab), ("math/bits.deBruijn64tab", laid_math_bits_deBruijn64tab), ("internal/strconv.uint64pow10", laid_internal_strconv_uint64pow10)] }
def FreshTrueSaid : Prop := freshTrueRow.holds Tryd.pinned (OpenSpec.ofChange freshTrueSpec)

/-- ITS FALSE NEIGHBOUR: 'it returns false'. Refute it at one input. -/
def freshTrueWrong : ChangeSpec := { name := "freshTrue", fn := fun _ => fun
  | [d1, d2] => { results := [.lit (.bool false)], args := [d1, d2] }
  | _ => none }
def FreshTrueWrongFalsely : Prop := freshTrueRow.holds Tryd.pinned (OpenSpec.ofChange freshTrueWrong)

/-- 'lockstitchlaw09.FreshMeets': WHATEVER THE INPUT: true; the input reads as it did. -/
def freshMeetsSpec : ChangeSpec := { name := "freshMeets", fn := fun _ => fun
  | [d] => { results := [.lit (.bool true)], args := [d] }
  | _ => none }
def freshMeetsRow : OpenClaim := { program := "ytfnoldopjnegfaadoor", sum := "028ef482a736668f019ad5d374dd3979abf5ea25bb329cd81f961250d1f884ed", func := "lockstitch/lockstitchlaw09.FreshMeets", spec := "freshMeets", recurses := true, named := ["internal/strconv.uint64pow10", "math/bits.deBruijn32tab", "math/bits.deBruijn64tab"], apart := false, laid := [("math/bits.deBruijn32tab", laid_math_bits_deBruijn32tab), ("math/bits.deBruijn64tab", laid_math_bits_deBruijn64tab), ("internal/strconv.uint64pow10", laid_internal_strconv_uint64pow10)] }
def FreshMeetsSaid : Prop := freshMeetsRow.holds Tryd.pinned (OpenSpec.ofChange freshMeetsSpec)

/-- ITS FALSE NEIGHBOUR: 'it returns false'. Refute it at one input. -/
def freshMeetsWrong : ChangeSpec := { name := "freshMeets", fn := fun _ => fun
  | [d] => { results := [.lit (.bool false)], args := [d] }
  | _ => none }
def FreshMeetsWrongFalsely : Prop := freshMeetsRow.holds Tryd.pinned (OpenSpec.ofChange freshMeetsWrong)

/-- 'lockstitchlaw09.FreshMore': WHATEVER THE INPUT: true; the input reads as it did. -/
def freshMoreSpec : ChangeSpec := { name := "freshMore", fn := fun _ => fun
  | [d1, d2, d3] => { results := [.lit (.bool true)], args := [d1, d2, d3] }
  | _ => none }
def freshMoreRow : OpenClaim := { program := "ytfnoldopjnegfaadoor", sum := "028ef482a736668f019ad5d374dd3979abf5ea25bb329cd81f961250d1f884ed", func := "lockstitch/lockstitchlaw09.FreshMore", spec := "freshMore", recurses := true, named := ["internal/strconv.uint64pow10", "math/bits.deBruijn32tab", "math/bits.deBruijn64tab"], apart := false, laid := [("math/bits.deBruijn32tab", laid_math_bits_deBruijn32tab), ("math/bits.deBruijn64tab", laid_math_bits_deBruijn64tab), ("internal/strconv.uint64pow10", laid_internal_strconv_uint64pow10)] }
def FreshMoreSaid : Prop := freshMoreRow.holds Tryd.pinned (OpenSpec.ofChange freshMoreSpec)

/-- ITS FALSE NEIGHBOUR: 'it returns false'. Refute it at one input. -/
def freshMoreWrong : ChangeSpec := { name := "freshMore", fn := fun _ => fun
  | [d1, d2, d3] => { results := [.lit (.bool false)], args := [d1, d2, d3] }
  | _ => none }
def FreshMoreWrongFalsely : Prop := freshMoreRow.holds Tryd.pinned (OpenSpec.ofChange freshMoreWrong)

/-- 'lockstitchlaw09.FreshSafe': WHATEVER THE INPUT: true; the input reads as it did. -/
def freshSafeSpec : ChangeSpec := { name := "freshSafe", fn := fun _ => fun
  | [d1, d2] => { results := [.lit (.bool true)], args := [d1, d2] }
  | _ => none }
def freshSafeRow : OpenClaim := { program := "ytfnoldopjnegfaadoor", sum := "028ef482a736668f019ad5d374dd3979abf5ea25bb329cd81f961250d1f884ed", func := "lockstitch/lockstitchlaw09.FreshSafe", spec := "freshSafe", recurses := true, named := ["internal/strconv.uint64pow10", "math/bits.deBruijn32tab", "math/bits.deBruijn64tab"], apart := false, laid := [("math/bits.deBruijn32tab", laid_math_bits_deBruijn32tab), ("math/bits.deBruijn64tab", laid_math_bits_deBruijn64tab), ("internal/strconv.uint64pow10", laid_internal_strconv_uint64pow10)] }
def FreshSafeSaid : Prop := freshSafeRow.holds Tryd.pinned (OpenSpec.ofChange freshSafeSpec)

/-- ITS FALSE NEIGHBOUR: 'it returns false'. Refute it at one input. -/
def freshSafeWrong : ChangeSpec := { name := "freshSafe", fn := fun _ => fun
  | [d1, d2] => { results := [.lit (.bool false)], args := [d1, d2] }
  | _ => none }
def FreshSafeWrongFalsely : Prop := freshSafeRow.holds Tryd.pinned (OpenSpec.ofChange freshSafeWrong)

/-- 'lockstitchlaw09.FreshOthers': WHATEVER THE INPUT: true; the input reads as it did. -/
def freshOthersSpec : ChangeSpec := { name := "freshOthers", fn := fun _ => fun
  | [d1, d2, d3] => { results := [.lit (.bool true)], args := [d1, d2, d3] }
  | _ => none }
def freshOthersRow : OpenClaim := { program := "ytfnoldopjnegfaadoor", sum := "028ef482a736668f019ad5d374dd3979abf5ea25bb329cd81f961250d1f884ed", func := "lockstitch/lockstitchlaw09.FreshOthers", spec := "freshOthers", recurses := true, named := ["internal/strconv.uint64pow10", "math/bits.deBruijn32tab", "math/bits.deBruijn64tab"], apart := false, laid := [("math/bits.deBruijn32tab", laid_math_bits_deBruijn32tab), ("math/bits.deBruijn64tab", laid_math_bits_deBruijn64tab), ("internal/strconv.uint64pow10", laid_internal_strconv_uint64pow10)] }
def FreshOthersSaid : Prop := freshOthersRow.holds Tryd.pinned (OpenSpec.ofChange freshOthersSpec)

/-- ITS FALSE NEIGHBOUR: 'it returns false'. Refute it at one input. -/
def freshOthersWrong : ChangeSpec := { name := "freshOthers", fn := fun _ => fun
  | [d1, d2, d3] => { results := [.lit (.bool false)], args := [d1, d2, d3] }
  | _ => none }
def FreshOthersWrongFalsely : Prop := freshOthersRow.holds Tryd.pinned (OpenSpec.ofChange freshOthersWrong)

/-- 'lockstitchlaw09.FreshNil': WHATEVER THE INPUT: true; the input reads as it did. -/
def freshNilSpec : ChangeSpec := { name := "freshNil", fn := fun _ => fun
  | [d1, d2, d3] => { results := [.lit (.bool true)], args := [d1, d2, d3] }
  | _ => none }
def freshNilRow : OpenClaim := { program := "ytfnoldopjnegfaadoor", sum := "028ef482a736668f019ad5d374dd3979abf5ea25bb329cd81f961250d1f884ed", func := "lockstitch/lockstitchlaw09.FreshNil", spec := "freshNil", recurses := true, named := ["internal/strconv.uint64pow10", "math/bits.deBruijn32tab", "math/bits.deBruijn64tab"], apart := false, laid := [("math/bits.deBruijn32tab", laid_math_bits_deBruijn32tab), ("math/bits.deBruijn64tab", laid_math_bits_deBruijn64tab), ("internal/strconv.uint64pow10", laid_internal_strconv_uint64pow10)] }
def FreshNilSaid : Prop := freshNilRow.holds Tryd.pinned (OpenSpec.ofChange freshNilSpec)

/-- ITS FALSE NEIGHBOUR: 'it returns false'. Refute it at one input. -/
def freshNilWrong : ChangeSpec := { name := "freshNil", fn := fun _ => fun
  | [d1, d2, d3] => { results := [.lit (.bool false)], args := [d1, d2, d3] }
  | _ => none }
def FreshNilWrongFalsely : Prop := freshNilRow.holds Tryd.pinned (OpenSpec.ofChange freshNilWrong)

/- THE SECOND FORM. 'bulk': how many values and letters a reading holds, each counted each time it is reached (what is shared counts as often as it is met; a slice's spare places count too). A statement '..UptoSaid' is the law's where the arguments, and the package variables that the reading takes, are together of bulk at most 1048576: NARROWER than '..Said'. Prove '..Said' where nothing that the law and all that it calls make is longer than what came in: it says more and counts as full. Else prove '..UptoSaid'. A law counts once. -/
mutual
def uptoBulk {H : Type} : DataW H → Nat
  | .lit (.string bytes) => bytes.length + 1
  | .lit _ => 1
  | .nil => 1
  | .ptr d => uptoBulk d + 1
  | .slice elems spare => uptoBulkAll elems + uptoBulkAll spare + 1
  | .agg parts => uptoBulkAll parts + 1
  | .iface _ d => uptoBulk d + 1
  | .map entries => uptoBulkEntries entries + 1
  | .held _ => 1
def uptoBulkAll {H : Type} : List (DataW H) → Nat
  | [] => 0
  | d :: r => uptoBulk d + uptoBulkAll r
def uptoBulkEntries {H : Type} : List (Lit × DataW H) → Nat
  | [] => 0
  | x :: r => uptoBulkEntry x + uptoBulkEntries r
def uptoBulkEntry {H : Type} : Lit × DataW H → Nat
  | (.string bytes, d) => bytes.length + uptoBulk d + 1
  | (_, d) => uptoBulk d + 1
 end
def uptoSmall : (H : Type) → List (DataW H) → Bool := fun _ ds => decide (uptoBulkAll ds ≤ 1048576)
def OpenSpec.upto (s : _root_.Go.ChangeSpec) : _root_.Go.OpenSpec := { _root_.Go.OpenSpec.ofChange s with cond := some uptoSmall }

/-- 'lockstitchlaw09.FreshTells', WHERE WHAT IT READS IS OF BULK AT MOST 1048576: true; the input reads as it did. -/
def freshTellsUptoRow : OpenClaim := { program := "ytfnoldopjnegfaadoor", sum := "028ef482a736668f019ad5d374dd3979abf5ea25bb329cd81f961250d1f884ed", func := "lockstitch/lockstitchlaw09.FreshTells", spec := "freshTells", recurses := true, named := ["internal/strconv.uint64pow10", "math/bits.deBruijn32tab", "math/bits.deBruijn64tab"], apart := false, laid := [("math/bits.deBruijn32tab", laid_math_bits_deBruijn32tab), ("math/bits.deBruijn64tab", laid_math_bits_deBruijn64tab), ("internal/strconv.uint64pow10", laid_internal_strconv_uint64pow10)], narrowed := true }
def FreshTellsUptoSaid : Prop := freshTellsUptoRow.holds Tryd.pinned (OpenSpec.upto freshTellsSpec)

/-- 'lockstitchlaw09.FreshTrue', WHERE WHAT IT READS IS OF BULK AT MOST 1048576: true; the input reads as it did. -/
def freshTrueUptoRow : OpenClaim := { program := "ytfnoldopjnegfaadoor", sum := "028ef482a736668f019ad5d374dd3979abf5ea25bb329cd81f961250d1f884ed", func := "lockstitch/lockstitchlaw09.FreshTrue", spec := "freshTrue", recurses := true, named := ["internal/strconv.uint64pow10", "math/bits.deBruijn32tab", "math/bits.deBruijn64tab"], apart := false, laid := [("math/bits.deBruijn32tab", laid_math_bits_deBruijn32tab), ("math/bits.deBruijn64tab", laid_math_bits_deBruijn64tab), ("internal/strconv.uint64pow10", laid_internal_strconv_uint64pow10)], narrowed := true }
def FreshTrueUptoSaid : Prop := freshTrueUptoRow.holds Tryd.pinned (OpenSpec.upto freshTrueSpec)

/-- 'lockstitchlaw09.FreshMeets', WHERE WHAT IT READS IS OF BULK AT MOST 1048576: true; the input reads as it did. -/
def freshMeetsUptoRow : OpenClaim := { program := "ytfnoldopjnegfaadoor", sum := "028ef482a736668f019ad5d374dd3979abf5ea25bb329cd81f961250d1f884ed", func := "lockstitch/lockstitchlaw09.FreshMeets", spec := "freshMeets", recurses := true, named := ["internal/strconv.uint64pow10", "math/bits.deBruijn32tab", "math/bits.deBruijn64tab"], apart := false, laid := [("math/bits.deBruijn32tab", laid_math_bits_deBruijn32tab), ("math/bits.deBruijn64tab", laid_math_bits_deBruijn64tab), ("internal/strconv.uint64pow10", laid_internal_strconv_uint64pow10)], narrowed := true }
def FreshMeetsUptoSaid : Prop := freshMeetsUptoRow.holds Tryd.pinned (OpenSpec.upto freshMeetsSpec)

/-- 'lockstitchlaw09.FreshMore', WHERE WHAT IT READS IS OF BULK AT MOST 1048576: true; the input reads as it did. -/
def freshMoreUptoRow : OpenClaim := { program := "ytfnoldopjnegfaadoor", sum := "028ef482a736668f019ad5d374dd3979abf5ea25bb329cd81f961250d1f884ed", func := "lockstitch/lockstitchlaw09.FreshMore", spec := "freshMore", recurses := true, named := ["internal/strconv.uint64pow10", "math/bits.deBruijn32tab", "math/bits.deBruijn64tab"], apart := false, laid := [("math/bits.deBruijn32tab", laid_math_bits_deBruijn32tab), ("math/bits.deBruijn64tab", laid_math_bits_deBruijn64tab), ("internal/strconv.uint64pow10", laid_internal_strconv_uint64pow10)], narrowed := true }
def FreshMoreUptoSaid : Prop := freshMoreUptoRow.holds Tryd.pinned (OpenSpec.upto freshMoreSpec)

/-- 'lockstitchlaw09.FreshSafe', WHERE WHAT IT READS IS OF BULK AT MOST 1048576: true; the input reads as it did. -/
def freshSafeUptoRow : OpenClaim := { program := "ytfnoldopjnegfaadoor", sum := "028ef482a736668f019ad5d374dd3979abf5ea25bb329cd81f961250d1f884ed", func := "lockstitch/lockstitchlaw09.FreshSafe", spec := "freshSafe", recurses := true, named := ["internal/strconv.uint64pow10", "math/bits.deBruijn32tab", "math/bits.deBruijn64tab"], apart := false, laid := [("math/bits.deBruijn32tab", laid_math_bits_deBruijn32tab), ("math/bits.deBruijn64tab", laid_math_bits_deBruijn64tab), ("internal/strconv.uint64pow10", laid_internal_strconv_uint64pow10)], narrowed := true }
def FreshSafeUptoSaid : Prop := freshSafeUptoRow.holds Tryd.pinned (OpenSpec.upto freshSafeSpec)

/-- 'lockstitchlaw09.FreshOthers', WHERE WHAT IT READS IS OF BULK AT MOST 1048576: true; the input reads as it did. -/
def freshOthersUptoRow : OpenClaim := { program := "ytfnoldopjnegfaadoor", sum := "028ef482a736668f019ad5d374dd3979abf5ea25bb329cd81f961250d1f884ed", func := "lockstitch/lockstitchlaw09.FreshOthers", spec := "freshOthers", recurses := true, named := ["internal/strconv.uint64pow10", "math/bits.deBruijn32tab", "math/bits.deBruijn64tab"], apart := false, laid := [("math/bits.deBruijn32tab", laid_math_bits_deBruijn32tab), ("math/bits.deBruijn64tab", laid_math_bits_deBruijn64tab), ("internal/strconv.uint64pow10", laid_internal_strconv_uint64pow10)], narrowed := true }
def FreshOthersUptoSaid : Prop := freshOthersUptoRow.holds Tryd.pinned (OpenSpec.upto freshOthersSpec)

/-- 'lockstitchlaw09.FreshNil', WHERE WHAT IT READS IS OF BULK AT MOST 1048576: true; the input reads as it did. -/
def freshNilUptoRow : OpenClaim := { program := "ytfnoldopjnegfaadoor", sum := "028ef482a736668f019ad5d374dd3979abf5ea25bb329cd81f961250d1f884ed", func := "lockstitch/lockstitchlaw09.FreshNil", spec := "freshNil", recurses := true, named := ["internal/strconv.uint64pow10", "math/bits.deBruijn32tab", "math/bits.deBruijn64tab"], apart := false, laid := [("math/bits.deBruijn32tab", laid_math_bits_deBruijn32tab), ("math/bits.deBruijn64tab", laid_math_bits_deBruijn64tab), ("internal/strconv.uint64pow10", laid_internal_strconv_uint64pow10)], narrowed := true }
def FreshNilUptoSaid : Prop := freshNilUptoRow.holds Tryd.pinned (OpenSpec.upto freshNilSpec)

end Rows
end Go.Proofs.YtfnoldopjnegfaaDoor
