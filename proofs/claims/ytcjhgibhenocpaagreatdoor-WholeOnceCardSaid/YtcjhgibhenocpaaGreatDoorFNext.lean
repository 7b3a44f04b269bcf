/-
  The document's Next and Safe: contracts.
-/
import Derived.Test.YtcjhgibhenocpaaGreatDoorUAO
import Derived.Test.YtcjhgibhenocpaaGreatDoorUAW
import Derived.Laws.IdiomCopy
import Derived.StillTailTactics
import Derived.Deep.CutRange
import Derived.ChangeKeysEq
import Derived.Deep.RegionHeld3
import Derived.Lib.SliceRun
namespace Go.Proofs.YtcjhgibhenocpaaGreatDoor
set_option linter.unusedSimpArgs false
set_option linter.unusedVariables false
open Go.RowKit

def nextV (q : PProg) (k : Int) : List Int := if 0 ≤ k then (nextL q k.toNat).map (fun n : Nat => (n : Int)) else []
def safeV (q : PProg) (k : Int) : Bool := decide (0 ≤ k) && safeL q k.toNat
def RowPost (w : World) (l : List Int) (e : Ending) (w' : World) : Prop := ∃ v, e = .returned v ∧ w'.ownsRow w.heap.size 3 1 v l.length (i64s l) ∧ Below w.heap.size w w'
theorem nextV_at {q : PProg} {k : Nat} {i : PIns} (hi : q.code[k]? = some i) (hp : i.op = 3 ∨ i.op = 4 → 0 ≤ i.n) : nextV q k = (if i.op = 3 then [i.n] else if i.op = 4 ∧ i.n < (k : Int) + 1 then [i.n, (k : Int) + 1] else if i.op = 4 ∧ (k : Int) + 1 < i.n then [(k : Int) + 1, i.n] else [(k : Int) + 1]) := by
  unfold nextV
  rw [if_pos (by omega), Int.toNat_natCast, next_form hi hp]
  by_cases h3 : i.op = 3
  · have := hp (.inl h3)
    rw [if_pos h3, if_pos h3]; simp; omega
  · by_cases h4 : i.op = 4
    · have := hp (.inr h4)
      by_cases h5 : i.n < (k : Int) + 1
      · simp [h4, h5]; omega
      · by_cases h6 : (k : Int) + 1 < i.n
        · simp [h4, h5, h6]; omega
        · simp [h4, h5, h6]
    · simp [h3, h4]
theorem nextV_none {q : PProg} {k : Int} (h : k < 0 ∨ (q.code.length : Int) ≤ k) : nextV q k = [] := by
  unfold nextV
  split
  · unfold nextL; rw [List.getElem?_eq_none (by omega)]; rfl
  · rfl
end Go.Proofs.YtcjhgibhenocpaaGreatDoor
