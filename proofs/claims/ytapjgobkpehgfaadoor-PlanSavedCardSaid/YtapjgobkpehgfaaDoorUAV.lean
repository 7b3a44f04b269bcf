/-
  A state's cells; what reads them: isDone, object, hasField, nextPlace, oneIf.
  The program's newObject: its contract.
-/
import Derived.Test.YtapjgobkpehgfaaDoorUAU
import Derived.Deep.RegionLaw
import Derived.Deep.AppendLies
import Derived.Deep.OwnRows
import Derived.Deep.RegionHeld3
import Derived.StillTailTactics

/- A state's cells; what reads them: isDone, object, hasField, nextPlace, oneIf. -/
namespace Go.Proofs.YtapjgobkpehgfaaDoor
set_option linter.unusedSimpArgs false
set_option linter.unusedVariables false
open Go.RowKit

section
variable {s : PSt} {vo vt : Value}
end
theorem own_form {w : World} {B n sz : Nat} {e : TypeId} {v : Value} {cs : List Value} (h : w.ownsRow B e sz v n cs) : ∃ a c, v = .slice a n c ∧ n ≤ c ∧ c ≤ 9223372036854775807 := by
  rcases h.2 with ⟨rfl, rfl⟩ | ⟨g, cap, cur, rfl, _, _, h3, h4, _⟩
  · exact ⟨none, 0, rfl, Nat.le_refl _, by omega⟩
  · exact ⟨_, cap, rfl, h3, by unfold maxLen at h4; omega⟩
section
variable {w : World} {B b : Nat} {s : PSt} {vo vt : Value}
end
end Go.Proofs.YtapjgobkpehgfaaDoor

/- The program's newObject: its contract. -/
namespace Go.Proofs.YtapjgobkpehgfaaDoor
set_option linter.unusedSimpArgs false
set_option linter.unusedVariables false
open Go.RowKit

theorem made_rep (k : Nat) (v : Value) : madeCells #[v] k = Array.replicate k v := by
  unfold madeCells
  apply Array.ext
  · simp
  · intro i h1 h2
    simp [Nat.mod_one]
end Go.Proofs.YtapjgobkpehgfaaDoor
