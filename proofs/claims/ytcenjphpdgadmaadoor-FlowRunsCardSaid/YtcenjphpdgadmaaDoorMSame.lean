/-
  The document's Same of a state with itself, wherever the two lie.
-/
import Derived.Test.YtcenjphpdgadmaaDoorMArr
import Derived.Test.YtcenjphpdgadmaaDoorPA
import Derived.StillTailTactics
import Derived.Deep.CutRange
namespace Go.Proofs.YtcenjphpdgadmaaDoor
set_option linter.unusedSimpArgs false
set_option linter.unusedVariables false
open Go.RowKit

theorem range_x {w : World} {b : Nat} {s : PSt} {vo vt : Value} {t : TypeId} (h : blk w b (stC s vo vt) t) (hl : LenS s) : w.rangeAt b 0 (i64s s.x) ∧ w.rangeAt b 8 (i64s s.p) ∧ w.rangeAt b 16 (i64s s.g) := by
  have key : ∀ (l : List Int) (j : Nat) (v : Value), (i64s l)[j]? = some v → v = .int .i64 (l.getD j 0) ∧ j < l.length := fun l j v hv => by
    have hj := (List.getElem?_eq_some_iff.1 hv).1
    rw [i64s_len] at hj
    refine ⟨?_, hj⟩
    have e : l[j]? = some (l.getD j 0) := by rw [List.getD_eq_getElem?_getD, List.getElem?_eq_getElem hj]; rfl
    rw [i64s_get e] at hv
    exact (Option.some.inj hv).symm
  refine ⟨fun j v hv => ?_, fun j v hv => ?_, fun j v hv => ?_⟩
  · obtain ⟨rfl, hj⟩ := key _ _ _ hv
    rw [Nat.zero_add]; exact blk_cell h _ _ (stC_x hl j (by have := hl.x; omega))
  · obtain ⟨rfl, hj⟩ := key _ _ _ hv
    exact blk_cell h _ _ (stC_p hl j (by have := hl.p; omega))
  · obtain ⟨rfl, hj⟩ := key _ _ _ hv
    exact blk_cell h _ _ (stC_g hl j (by have := hl.g; omega))
end Go.Proofs.YtcenjphpdgadmaaDoor
