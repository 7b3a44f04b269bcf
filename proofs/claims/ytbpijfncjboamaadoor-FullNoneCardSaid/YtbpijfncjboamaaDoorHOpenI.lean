/-
  What came in: an int.
-/
import Derived.Test.YtbpijfncjboamaaDoorHOpen
namespace Go.Proofs.YtbpijfncjboamaaDoor
set_option linter.unusedSimpArgs false
set_option linter.unusedVariables false
open Go.RowKit Go.ChangeShapes Go.WideShapes Go.Deep Go.Joins

section
variable {H : Type} {enc : TypeId × Value → H} {w : World} {base : Nat} {spare : Nat → Bool} {held : Bool}
set_option maxRecDepth 100000 in
theorem open_i64 {r : Reach} {b0 : Nat} {v : Value} {d : DataW H} {ps : List MemPlace} (hv : Value.okWide Tryd.prog w r b0 3 v) (h : DataW.Trod enc Tryd.prog w base spare held 3 v d ps) : ∃ n : Int, v = .int .i64 n ∧ d = .lit (.int .i64 n) ∧ ps = [] := by
  obtain ⟨n, e, e2, e3, _⟩ := open_int Tryd.underlying3 hv h
  exact ⟨n, e, e2, e3⟩
end
end Go.Proofs.YtbpijfncjboamaaDoor
