/-
  The contract of numbersOf.
-/
import Derived.Test.YtdnhlahecmfhdaaCBlk
import Derived.IntWalk
import Derived.Laws.RangeString
namespace Go.Proofs.Ytdnhlahecmfhdaa
open Go.RowKit

abbrev insC (i : PIns) : Array Value := #[.int .u8 i.op, .int .u8 i.a, .int .u8 i.b, .int .u8 i.c, .int .i64 i.n]
def AggPost (w : World) (v : Value) (e : Ending) (w' : World) : Prop := e = .returned v ∧ Below w.heap.size w w'

end Go.Proofs.Ytdnhlahecmfhdaa
