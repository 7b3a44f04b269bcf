/-
  The program's newObject: its contract.
-/
import Derived.Test.YtcenjphpdgadmaaDoorPA
import Derived.Test.YtcenjphpdgadmaaDoorHChk
import Derived.Deep.RegionLaw
import Derived.Deep.AppendLies
import Derived.Deep.OwnRows
import Derived.Deep.RegionHeld3
import Derived.StillTailTactics
namespace Go.Proofs.YtcenjphpdgadmaaDoor
set_option linter.unusedSimpArgs false
set_option linter.unusedVariables false
open Go.RowKit

theorem one_cellV {w : World} (v : Value) (t : TypeId) : ∀ j u, [v][j]? = some u → (w.alloc (.cells #[v] t)).cell? ((⟨w.heap.size, 0, none⟩ : Addr).add j) = some u := by
  intro j u hu
  rcases j with _ | j
  · simp at hu; subst hu
    exact blk_cell (blk_new w #[v] t) 0 _ rfl
  · simp at hu
theorem made_rep (k : Nat) (v : Value) : madeCells #[v] k = Array.replicate k v := by
  unfold madeCells
  apply Array.ext
  · simp
  · intro i h1 h2
    simp [Nat.mod_one]
theorem zeros_own (w : World) {B k : Nat} (hB : B ≤ w.heap.size) (hk : k ≤ maxLen) : (w.alloc (.cells (madeCells #[.int .i64 0] k) 2)).ownsRow B 2 1 (.slice (some ⟨w.heap.size, 0, none⟩) k k) k (i64s (List.replicate k 0)) := by
  rw [made_rep]
  refine ⟨by simp, .inr ⟨w.heap.size, k, _, rfl, hB, blk_new _ _ _, Nat.le_refl _, hk, by simp, ?_⟩⟩
  simp [i64s]
end Go.Proofs.YtcenjphpdgadmaaDoor
