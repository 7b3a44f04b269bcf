/-
  An instruction of the program, copied.
-/
import Derived.Test.YtfnoldopjnegfaaDoorVPU
import Derived.Deep.LoopGhost
import Derived.Deep.RegionHeld3
import Derived.Deep.CutRange
import Derived.Deep.CutBlock
import Derived.Deep.QuietTactic
namespace Go.Proofs.YtfnoldopjnegfaaDoor
set_option linter.unusedSimpArgs false
set_option linter.unusedVariables false
open Go.RowKit

/-- What is kept: the program, and the copy. -/
structure InsK (w wx : World) (I : Nat) (x x' : Option Addr) (kx kx' : Nat) (p : PProg) (op a b c n : Int) : Prop where
  keep : Keep wx w.heap.size (.slice x p.types.length kx) (.slice x' p.code.length kx') p
  below : Below w.heap.size w wx
  ins : blk wx I (insC ⟨op, a, b, c, n⟩) 47
theorem InsK.next {w wx w' : World} {I : Nat} {x x' : Option Addr} {kx kx' : Nat} {p : PProg} {op a b c n : Int} (h : InsK w wx I x x' kx kx' p op a b c n) (hb : Below wx.heap.size wx w') : InsK w w' I x x' kx kx' p op a b c n :=
  ⟨h.keep.below hb, h.below.trans (hb.mono h.below.size), blk_below h.ins hb⟩
theorem shr_eq (m a : Nat) : ((m : Int) / 2 ^ a).tmod 2 = if m.testBit a = true then 1 else 0 := shr_tmod m a
end Go.Proofs.YtfnoldopjnegfaaDoor
