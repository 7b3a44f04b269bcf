/-
  What came in: a byte; a slice of instructions.
  What came in: an int.
  What came in: an int; two bytes.
-/
import Derived.Test.YtfnoldopjnegfaaDoorCOpen
import Derived.Test.YtfnoldopjnegfaaDoorBApp
import Derived.Test.YtfnoldopjnegfaaDoorVBI

/- What came in: a byte; a slice of instructions. -/
namespace Go.Proofs.YtfnoldopjnegfaaDoor
set_option linter.unusedSimpArgs false
set_option linter.unusedVariables false
open Go.RowKit Go.ChangeShapes Go.WideShapes Go.Deep Go.Joins

section
variable {H : Type} {enc : TypeId × Value → H} {w : World} {base : Nat} {spare : Nat → Bool} {held : Bool}
set_option maxRecDepth 100000 in
theorem open_u8 {r : Reach} {b0 : Nat} {v : Value} {d : DataW H} {ps : List MemPlace} (hv : Value.okWide Tryd.prog w r b0 5 v) (h : DataW.Trod enc Tryd.prog w base spare held 5 v d ps) : ∃ n : Int, v = .int .u8 n ∧ d = .lit (.int .u8 n) ∧ ps = [] ∧ 0 ≤ n ∧ n ≤ 255 := by
  obtain ⟨n, e, e2, e3, hw⟩ := open_int Tryd.underlying5 hv h
  exact ⟨n, e, e2, e3, (of_wf_u8 hw).1, (of_wf_u8 hw).2⟩
set_option maxRecDepth 100000 in
theorem open_codeF {r : Reach} {b0 : Nat} {v : Value} {d : DataW H} {ps : List MemPlace} (hv : Value.okWide Tryd.prog w r b0 23 v) (h : DataW.Trod enc Tryd.prog w base spare held 23 v d ps) : ∃ code : List PIns, InsRow w v code ∧ (∀ i ∈ code, OkI i) ∧ FormS v := by
  obtain ⟨a, n, c, rfl⟩ := okWide_slice Tryd.underlying23 hv
  obtain ⟨fuel, hf⟩ := h
  have hc : Value.cells (.slice a n c) = #[.slice a n c] := rfl
  rw [hc] at hf
  obtain ⟨code, h1, h2⟩ := open_code hf
  refine ⟨code, h1, h2, ?_⟩
  rcases open_slice_fields Tryd.underlying23 Tryd.underlying47 (by kernel_rfl) cellsOf_ins hf with ⟨hcs, _⟩ | ⟨a', len, cap, m, D, hcs, _⟩
  · simp at hcs
    obtain ⟨rfl, rfl, rfl⟩ := hcs
    exact .inl rfl
  · simp at hcs
    obtain ⟨rfl, rfl, rfl⟩ := hcs
    exact .inr ⟨_, _, _, rfl⟩
end
end Go.Proofs.YtfnoldopjnegfaaDoor

/- What came in: an int. -/
namespace Go.Proofs.YtfnoldopjnegfaaDoor
set_option linter.unusedSimpArgs false
set_option linter.unusedVariables false
open Go.RowKit Go.ChangeShapes Go.WideShapes Go.Deep Go.Joins

section
variable {H : Type} {enc : TypeId × Value → H} {w : World} {base : Nat} {spare : Nat → Bool} {held : Bool}
set_option maxRecDepth 100000 in
theorem open_i64 {r : Reach} {b0 : Nat} {v : Value} {d : DataW H} {ps : List MemPlace} (hv : Value.okWide Tryd.prog w r b0 3 v) (h : DataW.Trod enc Tryd.prog w base spare held 3 v d ps) : ∃ n : Int, v = .int .i64 n ∧ d = .lit (.int .i64 n) ∧ ps = [] := by
  obtain ⟨n, e, e2, e3, _⟩ := open_int Tryd.underlying3 hv h
  exact ⟨n, e, e2, e3⟩
end
end Go.Proofs.YtfnoldopjnegfaaDoor

/- What came in: an int; two bytes. -/
namespace Go.Proofs.YtfnoldopjnegfaaDoor
set_option linter.unusedSimpArgs false
set_option linter.unusedVariables false
open Go.ChangeShapes Go.WideShapes Go.ChangeAt Go.RowKit

section
variable {H : Type} {enc : TypeId × Value → H} {w : World} {base : Nat} {spare : Nat → Bool} {held : Bool}
theorem cells2 : Tryd.prog.cellsOf 44 = 2 := by kernel_rfl
theorem cellU8y : Tryd.prog.cellsOf 5 = 1 := by kernel_rfl
set_option maxRecDepth 100000 in
theorem open_two8 {r : Reach} {b0 : Nat} {v : Value} {d : DataW H} {ps : List MemPlace} (hv : Value.okWide Tryd.prog w r b0 44 v) (h : DataW.Trod enc Tryd.prog w base spare held 44 v d ps) : ∃ a b : Nat, a < 256 ∧ b < 256 ∧ v = .agg #[.int .u8 (a : Int), .int .u8 (b : Int)] := by
  unfold Value.okWide at hv
  rw [Tryd.underlying44] at hv
  obtain ⟨cs, rfl, hsz, _⟩ := hv
  rw [cells2] at hsz
  obtain ⟨l⟩ := cs
  match l, hsz with
  | [c0, c1], _ =>
    obtain ⟨fuel, hf⟩ := h
    obtain ⟨xs, m, _, _, _, hlen, hi⟩ := DataW.trod_array Tryd.underlying44 hf
    have i0 := hi 0 (by omega)
    have i1 := hi 1 (by omega)
    rw [cellU8y] at i0 i1
    rw [List.getElem?_eq_getElem (by omega)] at i0 i1
    obtain ⟨x0, e0, _, w0⟩ := DataW.trod_int Tryd.underlying5 i0
    obtain ⟨x1, e1, _, w1⟩ := DataW.trod_int Tryd.underlying5 i1
    have b0 := of_wf_u8 w0
    have b1 := of_wf_u8 w1
    simp [Value.cells] at e0 e1
    obtain ⟨y0, rfl⟩ : ∃ y : Nat, x0 = y := ⟨x0.toNat, by omega⟩
    obtain ⟨y1, rfl⟩ : ∃ y : Nat, x1 = y := ⟨x1.toNat, by omega⟩
    exact ⟨y0, y1, by omega, by omega, by rw [e0, e1]⟩
end
end Go.Proofs.YtfnoldopjnegfaaDoor
