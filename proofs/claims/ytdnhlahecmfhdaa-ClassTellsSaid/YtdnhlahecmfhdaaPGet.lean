/-
  A state's cells; what reads them: isDone, object, hasField, nextPlace, oneIf.
-/
import Derived.Test.YtdnhlahecmfhdaaMState
import Derived.Test.YtdnhlahecmfhdaaBRow
import Derived.Test.YtdnhlahecmfhdaaBFew
import Derived.Test.YtdnhlahecmfhdaaBPure
import Derived.Maps.AppendAt
import Derived.Deep.AppendLies
namespace Go.Proofs.Ytdnhlahecmfhdaa
open Go.RowKit

abbrev ptr (b : Nat) : Value := .pointer (some ⟨b, 0, none⟩)
section
variable {s : PSt} {vo vt : Value}
end
section
variable {w : World} {B b : Nat} {s : PSt} {vo vt : Value}
end
end Go.Proofs.Ytdnhlahecmfhdaa
