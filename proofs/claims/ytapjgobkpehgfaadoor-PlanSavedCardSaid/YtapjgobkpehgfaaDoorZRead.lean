/-
  The contract of the document's read.
-/
import Derived.Test.YtapjgobkpehgfaaDoorUAX
import Derived.Deep.CutRange
import Derived.Deep.AppendLies
import Derived.Deep.RegionLaw
import Derived.Handy
namespace Go.Proofs.YtapjgobkpehgfaaDoor
set_option linter.unusedSimpArgs false
set_option linter.unusedVariables false
open Go.RowKit

/-- What a round of the reading finds. -/
structure RAt (w : World) (j : PIns) (wr : World) : Prop where
  r : blk wr w.heap.size zeroC 29
  i : blk wr (w.heap.size + 1) (insC j) 29
  b : Below w.heap.size w wr
theorem RAt.below {w wr w' : World} {j : PIns} (h : RAt w j wr) (hb : Below wr.heap.size wr w') : RAt w j w' := ⟨blk_below h.r hb, blk_below h.i hb, h.b.trans (hb.mono h.b.size)⟩
theorem RAt.put {w wr : World} {j : PIns} (h : RAt w j wr) (j' : PIns) : RAt w j' (putB wr (w.heap.size + 1) (insC j') 29) := by
  refine ⟨?_, putB_at h.i _ _, h.b.trans (putB_below _ (by omega) _ _)⟩
  have : (putB wr (w.heap.size + 1) (insC j') 29).heap[w.heap.size]? = wr.heap[w.heap.size]? := putB_ne _ (by omega) _ _
  unfold blk; rw [this]; exact h.r

end Go.Proofs.YtapjgobkpehgfaaDoor
