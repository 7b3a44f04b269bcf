/-
  The document's Next and Safe: contracts.
-/
import Derived.Test.YtbpijfncjboamaaDoorVPa
import Derived.Test.YtbpijfncjboamaaDoorQMem
namespace Go.Proofs.YtbpijfncjboamaaDoor
set_option linter.unusedSimpArgs false
set_option linter.unusedVariables false
open Go.RowKit

def safeV (q : PProg) (k : Int) : Bool := decide (0 ≤ k) && safeL q k.toNat
end Go.Proofs.YtbpijfncjboamaaDoor
