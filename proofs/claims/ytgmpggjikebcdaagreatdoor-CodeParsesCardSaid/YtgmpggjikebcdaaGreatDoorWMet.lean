/-
  What the rows list, met by a world; the library's variable out of the world's shape.
-/
import Derived.Test.YtgmpggjikebcdaaGreatDoorRows
import Derived.Test.YtgmpggjikebcdaaGreatDoorWWords
import Derived.Shelf.Vars
import Derived.LaidMore
import Derived.Lay
import Derived.Stop.Joined
namespace Go.Proofs.YtgmpggjikebcdaaGreatDoor
open Go.RowKit

abbrev laidR : List (String × DataW Unit) := Rows.codePrintsRow.laid
set_option maxRecDepth 100000 in
theorem laid_met (os : Os) (args : Array Value) : laidMetH Tryz.prog laidR ((World.laidAll Tryz.prog os laidR).forCall (fun _ _ => 0) ⟨#[], args, []⟩).memory := by
  rw [MakeChecks.laidMetH_plain _ _ _ (by kernel_rfl)]
  exact laidMet_laidAll _ (by kernel_rfl) (by kernel_rfl)
theorem hasM_of {W : World} (h : W.ShapedOpen Tryz.prog) : HasM W :=
  cell_of_shapedOpen_int (g := 2) (t := 3) (zero := #[.int .i64 0]) (k := .i64) h (of_decide_eq_true (by kernel_rfl)) (by kernel_rfl) rfl (by kernel_rfl) (by kernel_rfl) (by kernel_rfl)
end Go.Proofs.YtgmpggjikebcdaaGreatDoor
