/-
  The contract of numbersOf.
-/
import Derived.Test.YtcenjphpdgadmaaDoorCBlk
import Derived.IntWalk
import Derived.Laws.RangeString
namespace Go.Proofs.YtcenjphpdgadmaaDoor
set_option linter.unusedSimpArgs false
set_option linter.unusedVariables false
open Go.RowKit

abbrev insC (i : PIns) : Array Value := #[.int .u8 i.op, .int .u8 i.a, .int .u8 i.b, .int .u8 i.c, .int .i64 i.n]
abbrev insV (i : PIns) : Value := .agg (insC i)
theorem ins_info : (Tryd.prog.info? 46).map (·.size) = some 5 := by kernel_rfl
def AggPost (w : World) (v : Value) (e : Ending) (w' : World) : Prop := e = .returned v ∧ Below w.heap.size w w'

end Go.Proofs.YtcenjphpdgadmaaDoor
