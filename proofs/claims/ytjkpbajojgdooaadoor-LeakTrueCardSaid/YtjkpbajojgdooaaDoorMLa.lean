/-
  ModelFurther: the walk.
  ModelPieces: the walk.
-/
import Derived.Test.YtjkpbajojgdooaaDoorPDS
import Derived.Test.YtjkpbajojgdooaaDoorMNS
import Derived.Deep.CutRange
import Derived.Deep.LoopGhost
import Derived.Deep.CutBlock

/- ModelFurther: the walk. -/
namespace Go.Proofs.YtjkpbajojgdooaaDoor
set_option linter.unusedSimpArgs false
set_option linter.unusedVariables false
open Go.RowKit

theorem rowN_form {w : World} {v : Value} {l : List Int} (h : RowN w v (i64s l)) : ∃ a c, v = .slice a l.length c ∧ l.length ≤ c ∧ c ≤ 9223372036854775807 := by
  obtain ⟨⟨a, c, rfl, h1, h2, h3⟩, -⟩ := h
  unfold maxLen at h2
  rw [i64s_len] at h1 ⊢
  exact ⟨a, c, rfl, h1, by omega⟩
end Go.Proofs.YtjkpbajojgdooaaDoor

/- ModelPieces: the walk. -/
namespace Go.Proofs.YtjkpbajojgdooaaDoor
set_option linter.unusedSimpArgs false
set_option linter.unusedVariables false
open Go.RowKit

theorem GridN.form {w : World} {v : Value} {xss : List (List Int)} (h : GridN w v xss) : ∃ a c, v = .slice a xss.length c ∧ xss.length ≤ c ∧ c ≤ 9223372036854775807 := by
  obtain ⟨rows, h1, ⟨⟨a, c, rfl, g1, g2, _⟩, _, _⟩, _⟩ := h
  unfold maxLen at g2
  exact ⟨a, c, by rw [h1], by omega, by omega⟩
theorem StN.one {w : World} {vo vt : Value} {s : PSt} (h : StN w vo vt s) : (stC s vo vt).all (·.oneCell') = true := by
  obtain ⟨a, c, rfl, _⟩ := h.objs.form
  obtain ⟨a', c', rfl, _⟩ := rowN_form h.out
  exact stC_one s rfl rfl
theorem size_run {p : PProg} {s : PSt} {ts : List Nat} {k : Nat} (hc : (checkL p).2 = 0) (h : RunOk p s ts k) (hk : k ≤ 1000000) : SizeOk s := by
  obtain ⟨hh, h1, h2, _⟩ := check_ok hc
  have hl := h.inv.lo
  have h3 := h.lt
  have h4 := h.lo
  refine ⟨by omega, by omega, fun xs hx => ?_, by have := h.pc; omega⟩
  obtain ⟨j, hj⟩ := List.getElem?_of_mem hx
  have hlt := (List.getElem?_eq_some_iff.1 hj).1
  have := h.inv.os j (by omega)
  rw [List.getD_eq_getElem?_getD, hj] at this
  have h6 : sizeP p.types (ts.getD j 0 : Nat) ≤ 6 := sizeI_le.2
  simp only [Option.getD_some] at this
  omega
theorem size_0 : SizeOk st0 := ⟨by decide, by decide, fun xs hx => by simp [st0] at hx, by decide⟩
end Go.Proofs.YtjkpbajojgdooaaDoor
