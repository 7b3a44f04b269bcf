/-
  The document's Next and Safe: contracts.
-/
import Derived.Test.YtdnhlahecmfhdaaFPure
import Derived.Test.YtdnhlahecmfhdaaMPure2
import Derived.Test.YtdnhlahecmfhdaaMState
import Derived.Test.YtdnhlahecmfhdaaPGet
import Derived.Test.YtdnhlahecmfhdaaBRow
import Derived.Test.YtdnhlahecmfhdaaBFew
import Derived.Test.YtdnhlahecmfhdaaBPure
import Derived.Test.YtdnhlahecmfhdaaCNum
import Derived.Laws.IdiomCopy
import Derived.StillTailTactics
import Derived.Deep.CutRange
import Derived.ChangeKeysEq
import Derived.Deep.RegionHeld3
import Derived.Lib.SliceRun
import Derived.Maps.AppendAt
import Derived.Deep.AppendLies
import Derived.Deep.RegionLaw
import Derived.Deep.OwnRows
import Derived.Laws.RangeAny
namespace Go.Proofs.Ytdnhlahecmfhdaa
open Go.RowKit

def RowPost (w : World) (l : List Int) (e : Ending) (w' : World) : Prop := ∃ v, e = .returned v ∧ w'.ownsRow w.heap.size 3 1 v l.length (i64s l) ∧ Below w.heap.size w w'
theorem own_new (w : World) {B : Nat} (l : List Int) (t : TypeId) (hB : B ≤ w.heap.size) (h : l.length ≤ 1000000) : (w.alloc (.cells (i64s l).toArray t)).ownsRow B t 1 (.slice (some ⟨w.heap.size, 0, none⟩) l.length l.length) l.length (i64s l) :=
  ⟨by simp, .inr ⟨w.heap.size, l.length, (i64s l).toArray, rfl, hB, blk_new _ _ _, Nat.le_refl _, by unfold maxLen; omega, by simp, by rw [Nat.mul_one]; exact List.take_of_length_le (by simp)⟩⟩
end Go.Proofs.Ytdnhlahecmfhdaa
