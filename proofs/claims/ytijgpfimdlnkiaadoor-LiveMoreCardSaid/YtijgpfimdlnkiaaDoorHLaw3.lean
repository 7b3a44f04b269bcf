/-
  CheckNeeds: the walk.
-/
import Derived.Test.YtijgpfimdlnkiaaDoorHCh
import Derived.Laws.AppendOwnNone
import Derived.Handy
import Derived.Deep.Cut
namespace Go.Proofs.YtijgpfimdlnkiaaDoor
set_option linter.unusedSimpArgs false
set_option linter.unusedVariables false
open Go.RowKit

theorem set_ne {w : World} {Q g j i : Nat} {cs : Array Value} {t : TypeId} (h : blk w Q cs t) (hne : g ≠ Q) (u : Value) : (w.setCell ⟨Q, j, none⟩ u).cell? ⟨g, i, none⟩ = w.cell? ⟨g, i, none⟩ := by
  rw [setCell_putB h]
  simp only [World.cell?, putB_ne _ hne]
end Go.Proofs.YtijgpfimdlnkiaaDoor
