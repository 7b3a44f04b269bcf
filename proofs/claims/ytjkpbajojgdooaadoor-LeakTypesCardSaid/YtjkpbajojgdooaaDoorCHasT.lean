/-
  Rows that list three tables: the powers of ten, out of what they list.
-/
import Derived.Test.YtjkpbajojgdooaaDoorCOpen
import Derived.Stop.LaidErr
import Derived.Test.YtjkpbajojgdooaaDoorRows
import Derived.LaidMore
import Derived.Lay
import Derived.Stop.Joined
import Derived.Test.YtjkpbajojgdooaaDoorZKit
namespace Go.Proofs.YtjkpbajojgdooaaDoor
set_option linter.unusedSimpArgs false
set_option linter.unusedVariables false
open Go.RowKit

abbrev laidT : List (String × DataW Unit) := Rows.leakTrueRow.laid
set_option maxRecDepth 100000 in
theorem laidT_met (os : Os) (args : Array Value) : laidMetH Tryd.prog laidT ((World.laidAll Tryd.prog os laidT).forCall (fun _ _ => 0) ⟨#[], args, []⟩).memory := by
  rw [MakeChecks.laidMetH_plain _ _ _ (by kernel_rfl)]
  exact laidMet_laidAll _ (by kernel_rfl) (by kernel_rfl)

set_option maxRecDepth 100000 in
theorem hasT_of {W : World} (h : laidMetH Tryd.prog laidT W) : HasT W := by
  rw [MakeChecks.laidMetH_plain _ _ _ (by kernel_rfl)] at h
  have e : (Rows.laid_internal_strconv_uint64pow10 : DataW Unit) = Lib.tabData .u64 Lib.pow10Tab := by kernel_rfl
  have h3 : laidMet Tryd.prog (("internal/strconv.uint64pow10", Rows.laid_internal_strconv_uint64pow10) :: laidT.tail.tail.tail) W := h.tail.tail
  rw [e] at h3
  exact Lib.tabIs_of_head gP (by kernel_rfl : (Tryd.prog.globals[0]?).map (·.type) = some 95) Tryd.underlying95 Tryd.underlying85 (by kernel_rfl) (by kernel_rfl) h3
end Go.Proofs.YtjkpbajojgdooaaDoor
