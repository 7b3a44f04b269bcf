/-
  CheckFirst: the walk.
-/
import Derived.Test.YtjkpbajojgdooaaDoorHCh
import Derived.Test.YtjkpbajojgdooaaDoorBApp
import Derived.Laws.AppendOwnNone
import Derived.Handy
import Derived.Deep.Cut
namespace Go.Proofs.YtjkpbajojgdooaaDoor
set_option linter.unusedSimpArgs false
set_option linter.unusedVariables false
open Go.RowKit

theorem insRow_take {w : World} {a : Option Addr} {n m c : Nat} {is : List PIns} (h : InsRow w (.slice a n c) is) (hm : m ≤ is.length) : InsRow w (.slice a m c) (is.take m) := by
  obtain ⟨a', c', e, h1, h2, h3⟩ := h
  simp only [Value.slice.injEq] at e
  obtain ⟨rfl, -, rfl⟩ := e
  refine ⟨a, c, by rw [List.length_take, Nat.min_eq_left hm], by rw [List.length_take]; omega, h2, fun j i hj => h3 j i ?_⟩
  rw [List.getElem?_take] at hj
  split at hj
  · exact hj
  · cases hj

end Go.Proofs.YtjkpbajojgdooaaDoor
