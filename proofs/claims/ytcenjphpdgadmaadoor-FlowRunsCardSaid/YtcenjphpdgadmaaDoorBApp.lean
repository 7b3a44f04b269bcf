/-
  Appends of instructions, and of texts, to rows of the call's own.
-/
import Derived.Test.YtcenjphpdgadmaaDoorBFew
import Derived.Laws.AppendOwnNone
import Derived.BigFrame
namespace Go.Proofs.YtcenjphpdgadmaaDoor
set_option linter.unusedSimpArgs false
set_option linter.unusedVariables false
open Go.RowKit

abbrev zeroC : Array Value := #[.int .u8 0, .int .u8 0, .int .u8 0, .int .u8 0, .int .i64 0]
/-- A slice that is nil, or has an address. -/
def FormS (u : Value) : Prop := u = .slice none 0 0 ∨ ∃ ad n c, u = .slice (some ad) n c
end Go.Proofs.YtcenjphpdgadmaaDoor
