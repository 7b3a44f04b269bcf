/-
  What came in: a byte; a slice of instructions.
-/
import Derived.Test.YtjkpbajojgdooaaDoorCOpen
import Derived.Test.YtjkpbajojgdooaaDoorBApp
namespace Go.Proofs.YtjkpbajojgdooaaDoor
set_option linter.unusedSimpArgs false
set_option linter.unusedVariables false
open Go.RowKit Go.ChangeShapes Go.WideShapes Go.Deep Go.Joins

section
variable {H : Type} {enc : TypeId × Value → H} {w : World} {base : Nat} {spare : Nat → Bool} {held : Bool}
set_option maxRecDepth 100000 in
theorem open_u8 {r : Reach} {b0 : Nat} {v : Value} {d : DataW H} {ps : List MemPlace} (hv : Value.okWide Tryd.prog w r b0 5 v) (h : DataW.Trod enc Tryd.prog w base spare held 5 v d ps) : ∃ n : Int, v = .int .u8 n ∧ d = .lit (.int .u8 n) ∧ ps = [] ∧ 0 ≤ n ∧ n ≤ 255 := by
  obtain ⟨n, e, e2, e3, hw⟩ := open_int Tryd.underlying5 hv h
  exact ⟨n, e, e2, e3, (of_wf_u8 hw).1, (of_wf_u8 hw).2⟩
set_option maxRecDepth 100000 in
theorem open_codeF {r : Reach} {b0 : Nat} {v : Value} {d : DataW H} {ps : List MemPlace} (hv : Value.okWide Tryd.prog w r b0 23 v) (h : DataW.Trod enc Tryd.prog w base spare held 23 v d ps) : ∃ code : List PIns, InsRow w v code ∧ (∀ i ∈ code, OkI i) ∧ FormS v := by
  obtain ⟨a, n, c, rfl⟩ := okWide_slice Tryd.underlying23 hv
  obtain ⟨fuel, hf⟩ := h
  have hc : Value.cells (.slice a n c) = #[.slice a n c] := rfl
  rw [hc] at hf
  obtain ⟨code, h1, h2⟩ := open_code hf
  refine ⟨code, h1, h2, ?_⟩
  rcases open_slice_fields Tryd.underlying23 Tryd.underlying45 (by kernel_rfl) cellsOf_ins hf with ⟨hcs, _⟩ | ⟨a', len, cap, m, D, hcs, _⟩
  · simp at hcs
    obtain ⟨rfl, rfl, rfl⟩ := hcs
    exact .inl rfl
  · simp at hcs
    obtain ⟨rfl, rfl, rfl⟩ := hcs
    exact .inr ⟨_, _, _, rfl⟩
end
end Go.Proofs.YtjkpbajojgdooaaDoor
