/-
  The document's Check: its contract.
-/
import Derived.Test.YtapjgobkpehgfaaDoorUAP
import Derived.Test.YtapjgobkpehgfaaDoorHFit
import Derived.Test.YtapjgobkpehgfaaDoorUAU
import Derived.Test.YtapjgobkpehgfaaDoorZRead
import Derived.Deep.CutRange
import Derived.Deep.QuietTactic
import Derived.BigQuiet
namespace Go.Proofs.YtapjgobkpehgfaaDoor
set_option linter.unusedSimpArgs false
set_option linter.unusedVariables false
open Go.RowKit

/-- A struct that is loaded behind a guard that says yes. -/
theorem wpList_loadBw {ops : Array Oper} {rest : List Oper} {o : Oper} {a : Act} {w : World} {Q : Exit → Act → World → Prop} (hw : Region.wanted o (yielded ops a.tmps) = true) (ty : TypeId) (x : Operand) (ho : o.op = .load ty x)
    (b : Nat) (cells : Array Value) (hx : a.eval x = .pointer (some ⟨b, 0, none⟩)) (t : TypeId) (hb : blk w b cells t) (d : TypeDesc) (hu : Tryd.prog.underlying ty = some d) (hd : d.isRow = true) (hi : (Tryd.prog.info? ty).map (·.size) = some cells.size)
    (h : wpList Tryd.prog ops Q rest (a.put o.dst (.agg cells)) w) : wpList Tryd.prog ops Q (o :: rest) a w :=
  BigFrame.wpList_want hw fun K hK => wp_load_mid ty x ho b 0 hx cells.toList d (blk_range hb) hu hd (by simpa using hi) (hK _ _ (by simpa using h))
section
variable {p : PProg} {n : Int} {i : PIns}
end

end Go.Proofs.YtapjgobkpehgfaaDoor
