/-
  What the statements of layer 11 carry along.
-/
import Derived.Test.YtjkpbajojgdooaaDoorJAlive
namespace Go.Proofs.YtjkpbajojgdooaaDoor
set_option linter.unusedSimpArgs false
set_option linter.unusedVariables false
open Go.RowKit

theorem jN (w : World) (n : Nat) : Below w.heap.size w (w.drewN n) := ⟨rfl, rfl, rfl, Nat.le_refl _, fun _ _ => rfl⟩
structure JK (w wr : World) (xm : Option Addr) (cm : Nat) (x x' : Option Addr) (kx kx' : Nat) (p : PProg) : Prop where
  keep : Keep wr w.heap.size (.slice x p.types.length kx) (.slice x' p.code.length kx') p
  below : Below w.heap.size w wr
  may : MayAt wr (.slice xm p.locals.length cm) p
section
variable {w wr w' : World} {xm x x' : Option Addr} {cm kx kx' : Nat} {p : PProg}
theorem JK.next (h : JK w wr xm cm x x' kx kx' p) (hb : Below wr.heap.size wr w') : JK w w' xm cm x x' kx kx' p :=
  ⟨h.keep.below hb, h.below.trans (hb.mono h.below.size), h.may.below hb⟩
end
end Go.Proofs.YtjkpbajojgdooaaDoor
