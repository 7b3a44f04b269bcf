/-
  No cell of these rows narrows 'for every input' (looked for: loops, veiled, ifaces, maps, wideKeys, modest, calm, conditions, laid).
  DERIVED. THE GIVEN ROWS OF THIS SEAT. 7 by the template 'for every input the law returns true; each argument reads behind the call as it read before'; 0 by the template 'total and deterministic' (their statements: YtpeoecaamdiphaaTotals.lean).
  GIVEN WITH THE SEED: the statements are not yours to turn. If you find one false, say at which input.
  Laid BY PROGRAM, IN A SANDBOX (cutbox-rows.mjs): the forced cells as the released guide's own fill.sh prints them over the translation 58e5d1b18f1dc8ea… (all of the seat's roots in one cut). By AI agents, Wed Nov 11 2026. No macro, syntax, notation, axiom, sorry.
-/
import Derived.Test.YtpeoecaamdiphaaChecked
import GoSem.Claim
import GoSem.ClaimJoined
import GoSem.ClaimMapViews
import Derived.JoinedTies
import Derived.KernelRfl
namespace Go.Proofs.Ytpeoecaamdiphaa
/- THE CELL 'sum', in the pinned program and in every row, IS THE sha256 OF THE DUMP (.gsa) THAT YtpeoecaamdiphaaProg.lean LOADS. Nothing in Lean hashes anything: it is a label: what it is worth is what the hold of that sum in a sandbox is worth. -/
noncomputable def Try.pinned : Pinned := { name := "ytpeoecaamdiphaa", sum := "58e5d1b18f1dc8ea6bf7258385a7aa23bb53f38e6ab28b424feaa826d1b7426c", checked := Try.checked }
namespace Rows
def none {H : Type} : Left H := { results := [], args := [] }

/-- 'lockstitchlaw03.KindTells': WHATEVER THE INPUT: true; the input reads as it did. -/
def kindTellsSpec : ChangeSpec := { name := "kindTells", fn := fun _ => fun
  | [d1, d2, d3] => { results := [.lit (.bool true)], args := [d1, d2, d3] }
  | _ => none }
def kindTellsRow : OpenClaim := { program := "ytpeoecaamdiphaa", sum := "58e5d1b18f1dc8ea6bf7258385a7aa23bb53f38e6ab28b424feaa826d1b7426c", func := "lockstitch/lockstitchlaw03.KindTells", spec := "kindTells", recurses := true, apart := false }
def KindTellsSaid : Prop := kindTellsRow.holds Try.pinned (OpenSpec.ofChange kindTellsSpec)

/-- ITS FALSE NEIGHBOUR: 'it returns false'. Refute it at one input. -/
def kindTellsWrong : ChangeSpec := { name := "kindTells", fn := fun _ => fun
  | [d1, d2, d3] => { results := [.lit (.bool false)], args := [d1, d2, d3] }
  | _ => none }
def KindTellsWrongFalsely : Prop := kindTellsRow.holds Try.pinned (OpenSpec.ofChange kindTellsWrong)

/-- 'lockstitchlaw03.KindReaches': WHATEVER THE INPUT: true; the input reads as it did. -/
def kindReachesSpec : ChangeSpec := { name := "kindReaches", fn := fun _ => fun
  | [d1, d2] => { results := [.lit (.bool true)], args := [d1, d2] }
  | _ => none }
def kindReachesRow : OpenClaim := { program := "ytpeoecaamdiphaa", sum := "58e5d1b18f1dc8ea6bf7258385a7aa23bb53f38e6ab28b424feaa826d1b7426c", func := "lockstitch/lockstitchlaw03.KindReaches", spec := "kindReaches", recurses := true, apart := false }
def KindReachesSaid : Prop := kindReachesRow.holds Try.pinned (OpenSpec.ofChange kindReachesSpec)

/-- ITS FALSE NEIGHBOUR: 'it returns false'. Refute it at one input. -/
def kindReachesWrong : ChangeSpec := { name := "kindReaches", fn := fun _ => fun
  | [d1, d2] => { results := [.lit (.bool false)], args := [d1, d2] }
  | _ => none }
def KindReachesWrongFalsely : Prop := kindReachesRow.holds Try.pinned (OpenSpec.ofChange kindReachesWrong)

/-- 'lockstitchlaw03.KindFields': WHATEVER THE INPUT: true; the input reads as it did. -/
def kindFieldsSpec : ChangeSpec := { name := "kindFields", fn := fun _ => fun
  | [d1, d2] => { results := [.lit (.bool true)], args := [d1, d2] }
  | _ => none }
def kindFieldsRow : OpenClaim := { program := "ytpeoecaamdiphaa", sum := "58e5d1b18f1dc8ea6bf7258385a7aa23bb53f38e6ab28b424feaa826d1b7426c", func := "lockstitch/lockstitchlaw03.KindFields", spec := "kindFields", recurses := true, apart := false }
def KindFieldsSaid : Prop := kindFieldsRow.holds Try.pinned (OpenSpec.ofChange kindFieldsSpec)

/-- ITS FALSE NEIGHBOUR: 'it returns false'. Refute it at one input. -/
def kindFieldsWrong : ChangeSpec := { name := "kindFields", fn := fun _ => fun
  | [d1, d2] => { results := [.lit (.bool false)], args := [d1, d2] }
  | _ => none }
def KindFieldsWrongFalsely : Prop := kindFieldsRow.holds Try.pinned (OpenSpec.ofChange kindFieldsWrong)

/-- 'lockstitchlaw03.KindSteps': WHATEVER THE INPUT: true; the input reads as it did. -/
def kindStepsSpec : ChangeSpec := { name := "kindSteps", fn := fun _ => fun
  | [d1, d2] => { results := [.lit (.bool true)], args := [d1, d2] }
  | _ => none }
def kindStepsRow : OpenClaim := { program := "ytpeoecaamdiphaa", sum := "58e5d1b18f1dc8ea6bf7258385a7aa23bb53f38e6ab28b424feaa826d1b7426c", func := "lockstitch/lockstitchlaw03.KindSteps", spec := "kindSteps", unfollowed := true, recurses := true, apart := false }
def KindStepsSaid : Prop := kindStepsRow.holds Try.pinned (OpenSpec.ofChange kindStepsSpec)

/-- ITS FALSE NEIGHBOUR: 'it returns false'. Refute it at one input. -/
def kindStepsWrong : ChangeSpec := { name := "kindSteps", fn := fun _ => fun
  | [d1, d2] => { results := [.lit (.bool false)], args := [d1, d2] }
  | _ => none }
def KindStepsWrongFalsely : Prop := kindStepsRow.holds Try.pinned (OpenSpec.ofChange kindStepsWrong)

/-- 'lockstitchlaw03.KindMore': WHATEVER THE INPUT: true; the input reads as it did. -/
def kindMoreSpec : ChangeSpec := { name := "kindMore", fn := fun _ => fun
  | [d1, d2] => { results := [.lit (.bool true)], args := [d1, d2] }
  | _ => none }
def kindMoreRow : OpenClaim := { program := "ytpeoecaamdiphaa", sum := "58e5d1b18f1dc8ea6bf7258385a7aa23bb53f38e6ab28b424feaa826d1b7426c", func := "lockstitch/lockstitchlaw03.KindMore", spec := "kindMore", recurses := true, apart := false }
def KindMoreSaid : Prop := kindMoreRow.holds Try.pinned (OpenSpec.ofChange kindMoreSpec)

/-- ITS FALSE NEIGHBOUR: 'it returns false'. Refute it at one input. -/
def kindMoreWrong : ChangeSpec := { name := "kindMore", fn := fun _ => fun
  | [d1, d2] => { results := [.lit (.bool false)], args := [d1, d2] }
  | _ => none }
def KindMoreWrongFalsely : Prop := kindMoreRow.holds Try.pinned (OpenSpec.ofChange kindMoreWrong)

/-- 'lockstitchlaw03.KindLetters': WHATEVER THE INPUT: true; the input reads as it did. -/
def kindLettersSpec : ChangeSpec := { name := "kindLetters", fn := fun _ => fun
  | [d] => { results := [.lit (.bool true)], args := [d] }
  | _ => none }
def kindLettersRow : OpenClaim := { program := "ytpeoecaamdiphaa", sum := "58e5d1b18f1dc8ea6bf7258385a7aa23bb53f38e6ab28b424feaa826d1b7426c", func := "lockstitch/lockstitchlaw03.KindLetters", spec := "kindLetters", recurses := true, apart := false }
def KindLettersSaid : Prop := kindLettersRow.holds Try.pinned (OpenSpec.ofChange kindLettersSpec)

/-- ITS FALSE NEIGHBOUR: 'it returns false'. Refute it at one input. -/
def kindLettersWrong : ChangeSpec := { name := "kindLetters", fn := fun _ => fun
  | [d] => { results := [.lit (.bool false)], args := [d] }
  | _ => none }
def KindLettersWrongFalsely : Prop := kindLettersRow.holds Try.pinned (OpenSpec.ofChange kindLettersWrong)

/-- 'lockstitchlaw03.KindRefs': WHATEVER THE INPUT: true; the input reads as it did. -/
def kindRefsSpec : ChangeSpec := { name := "kindRefs", fn := fun _ => fun
  | [d1, d2, d3] => { results := [.lit (.bool true)], args := [d1, d2, d3] }
  | _ => none }
def kindRefsRow : OpenClaim := { program := "ytpeoecaamdiphaa", sum := "58e5d1b18f1dc8ea6bf7258385a7aa23bb53f38e6ab28b424feaa826d1b7426c", func := "lockstitch/lockstitchlaw03.KindRefs", spec := "kindRefs", recurses := true, apart := false }
def KindRefsSaid : Prop := kindRefsRow.holds Try.pinned (OpenSpec.ofChange kindRefsSpec)

/-- ITS FALSE NEIGHBOUR: 'it returns false'. Refute it at one input. -/
def kindRefsWrong : ChangeSpec := { name := "kindRefs", fn := fun _ => fun
  | [d1, d2, d3] => { results := [.lit (.bool false)], args := [d1, d2, d3] }
  | _ => none }
def KindRefsWrongFalsely : Prop := kindRefsRow.holds Try.pinned (OpenSpec.ofChange kindRefsWrong)

/- THE SECOND FORM. 'bulk': how many values and letters a reading holds, each counted each time it is reached (what is shared counts as often as it is met; a slice's spare places count too). A statement '..UptoSaid' is the law's where the arguments, and the package variables that the reading takes, are together of bulk at most 1048576: NARROWER than '..Said'. Prove '..Said' where nothing that the law and all that it calls make is longer than what came in: it says more and counts as full. Else prove '..UptoSaid'. A law counts once. -/
mutual
def uptoBulk {H : Type} : DataW H → Nat
  | .lit (.string bytes) => bytes.length + 1
  | .lit _ => 1
  | .nil => 1
  | .ptr d => uptoBulk d + 1
  | .slice elems spare => uptoBulkAll elems + uptoBulkAll spare + 1
  | .agg parts => uptoBulkAll parts + 1
  | .iface _ d => uptoBulk d + 1
  | .map entries => uptoBulkEntries entries + 1
  | .held _ => 1
def uptoBulkAll {H : Type} : List (DataW H) → Nat
  | [] => 0
  | d :: r => uptoBulk d + uptoBulkAll r
def uptoBulkEntries {H : Type} : List (Lit × DataW H) → Nat
  | [] => 0
  | x :: r => uptoBulkEntry x + uptoBulkEntries r
def uptoBulkEntry {H : Type} : Lit × DataW H → Nat
  | (.string bytes, d) => bytes.length + uptoBulk d + 1
  | (_, d) => uptoBulk d + 1
 end
def uptoSmall : (H : Type) → List (DataW H) → Bool := fun _ ds => decide (uptoBulkAll ds ≤ 1048576)
def OpenSpec.upto (s : _root_.Go.ChangeSpec) : _root_.Go.OpenSpec := { _root_.Go.OpenSpec.ofChange s with cond := some uptoSmall }

/-- 'lockstitchlaw03.KindTells', WHERE WHAT IT READS IS OF BULK AT MOST 1048576: true; the input reads as it did. -/
def kindTellsUptoRow : OpenClaim := { program := "ytpeoecaamdiphaa", sum := "58e5d1b18f1dc8ea6bf7258385a7aa23bb53f38e6ab28b424feaa826d1b7426c", func := "lockstitch/lockstitchlaw03.KindTells", spec := "kindTells", recurses := true, apart := false, narrowed := true }
def KindTellsUptoSaid : Prop := kindTellsUptoRow.holds Try.pinned (OpenSpec.upto kindTellsSpec)

/-- 'lockstitchlaw03.KindReaches', WHERE WHAT IT READS IS OF BULK AT MOST 1048576: true; the input reads as it did. -/
def kindReachesUptoRow : OpenClaim := { program := "ytpeoecaamdiphaa", sum := "58e5d1b18f1dc8ea6bf7258385a7aa23bb53f38e6ab28b424feaa826d1b7426c", func := "lockstitch/lockstitchlaw03.KindReaches", spec := "kindReaches", recurses := true, apart := false, narrowed := true }
def KindReachesUptoSaid : Prop := kindReachesUptoRow.holds Try.pinned (OpenSpec.upto kindReachesSpec)

/-- 'lockstitchlaw03.KindFields', WHERE WHAT IT READS IS OF BULK AT MOST 1048576: true; the input reads as it did. -/
def kindFieldsUptoRow : OpenClaim := { program := "ytpeoecaamdiphaa", sum := "58e5d1b18f1dc8ea6bf7258385a7aa23bb53f38e6ab28b424feaa826d1b7426c", func := "lockstitch/lockstitchlaw03.KindFields", spec := "kindFields", recurses := true, apart := false, narrowed := true }
def KindFieldsUptoSaid : Prop := kindFieldsUptoRow.holds Try.pinned (OpenSpec.upto kindFieldsSpec)

/-- 'lockstitchlaw03.KindSteps', WHERE WHAT IT READS IS OF BULK AT MOST 1048576: true; the input reads as it did. -/
def kindStepsUptoRow : OpenClaim := { program := "ytpeoecaamdiphaa", sum := "58e5d1b18f1dc8ea6bf7258385a7aa23bb53f38e6ab28b424feaa826d1b7426c", func := "lockstitch/lockstitchlaw03.KindSteps", spec := "kindSteps", unfollowed := true, recurses := true, apart := false, narrowed := true }
def KindStepsUptoSaid : Prop := kindStepsUptoRow.holds Try.pinned (OpenSpec.upto kindStepsSpec)

/-- 'lockstitchlaw03.KindMore', WHERE WHAT IT READS IS OF BULK AT MOST 1048576: true; the input reads as it did. -/
def kindMoreUptoRow : OpenClaim := { program := "ytpeoecaamdiphaa", sum := "58e5d1b18f1dc8ea6bf7258385a7aa23bb53f38e6ab28b424feaa826d1b7426c", func := "lockstitch/lockstitchlaw03.KindMore", spec := "kindMore", recurses := true, apart := false, narrowed := true }
def KindMoreUptoSaid : Prop := kindMoreUptoRow.holds Try.pinned (OpenSpec.upto kindMoreSpec)

/-- 'lockstitchlaw03.KindLetters', WHERE WHAT IT READS IS OF BULK AT MOST 1048576: true; the input reads as it did. -/
def kindLettersUptoRow : OpenClaim := { program := "ytpeoecaamdiphaa", sum := "58e5d1b18f1dc8ea6bf7258385a7aa23bb53f38e6ab28b424feaa826d1b7426c", func := "lockstitch/lockstitchlaw03.KindLetters", spec := "kindLetters", recurses := true, apart := false, narrowed := true }
def KindLettersUptoSaid : Prop := kindLettersUptoRow.holds Try.pinned (OpenSpec.upto kindLettersSpec)

/-- 'lockstitchlaw03.KindRefs', WHERE WHAT IT READS IS OF BULK AT MOST 1048576: true; the input reads as it did. -/
def kindRefsUptoRow : OpenClaim := { program := "ytpeoecaamdiphaa", sum := "58e5d1b18f1dc8ea6bf7258385a7aa23bb53f38e6ab28b424feaa826d1b7426c", func := "lockstitch/lockstitchlaw03.KindRefs", spec := "kindRefs", recurses := true, apart := false, narrowed := true }
def KindRefsUptoSaid : Prop := kindRefsUptoRow.holds Try.pinned (OpenSpec.upto kindRefsSpec)

end Rows
end Go.Proofs.Ytpeoecaamdiphaa
