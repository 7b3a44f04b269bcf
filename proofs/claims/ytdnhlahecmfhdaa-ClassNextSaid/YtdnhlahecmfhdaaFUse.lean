/-
  What the statements want of the program's flow.
-/
import Derived.Test.YtdnhlahecmfhdaaFNext
import Derived.Test.YtdnhlahecmfhdaaPGet
import Derived.Test.YtdnhlahecmfhdaaBRow
import Derived.Test.YtdnhlahecmfhdaaBFew
import Derived.Test.YtdnhlahecmfhdaaBPure
import Derived.Test.YtdnhlahecmfhdaaCNum
import Derived.Deep.LoopGhost
import Derived.Deep.RegionLaw
import Derived.Deep.AppendLies
import Derived.Deep.OwnRows
import Derived.Deep.RegionHeld3
import Derived.StillTailTactics
import Derived.Laws.RangeAny
import Derived.Deep.CutRange
import Derived.Deep.QuietTactic
import Derived.BigQuiet
import Derived.Lib.LaidTab
import Derived.Lib.AppendIntMem
import Derived.WalkSpells
import Derived.Laws.AppendOwnNone
import Derived.BigFrame
import Derived.Handy
namespace Go.Proofs.Ytdnhlahecmfhdaa
open Go.RowKit

def RowAPost (w : World) (l : List Int) (e : Ending) (w' : World) : Prop := ∃ v, e = .returned v ∧ RowAt w' v (i64s l) ∧ Below w.heap.size w w'
end Go.Proofs.Ytdnhlahecmfhdaa
