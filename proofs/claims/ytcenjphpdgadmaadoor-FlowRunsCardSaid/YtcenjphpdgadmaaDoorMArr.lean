/-
  Arrays of numbers, compared with themselves.
-/
import Derived.Test.YtcenjphpdgadmaaDoorMNS
import Derived.ChangeKeysEq
namespace Go.Proofs.YtcenjphpdgadmaaDoor
set_option linter.unusedSimpArgs false
set_option linter.unusedVariables false
open Go.RowKit

section
variable {P : Program}
end
theorem infoX : (Tryd.prog.info? 34).map (·.size) = some 8 := by kernel_rfl
theorem infoP : (Tryd.prog.info? 35).map (·.size) = some 8 := by kernel_rfl
theorem infoG : (Tryd.prog.info? 36).map (·.size) = some 4 := by kernel_rfl
end Go.Proofs.YtcenjphpdgadmaaDoor
