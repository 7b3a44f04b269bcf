/-
  Plain lists: decimal words.
-/
import Derived.Test.YtgmpggjikebcdaaGreatDoorWRows
namespace Go.Proofs.YtgmpggjikebcdaaGreatDoor

def trimL : Bs → Bs
  | [] => []
  | c :: r => if c = 45 then r else c :: r
def digC (c : UInt8) : Bool := decide (48 ≤ c.toNat) && decide (c.toNat ≤ 57)
def decL (l : Bs) : Bool := !(trimL l).isEmpty && (trimL l).all digC && ((trimL l).head? != some 48 || l == [48])
end Go.Proofs.YtgmpggjikebcdaaGreatDoor
