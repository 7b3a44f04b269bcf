/-
  What came in: numbers and their bounds, two ints.
-/
import Derived.Test.YtdnhlahecmfhdaaGCPure
import Derived.Test.YtdnhlahecmfhdaaChecked
import Derived.RowKit
import Derived.OpenShut
import Derived.ProofKit
import Derived.Deep.Fields
import Derived.ChangeSame
import Derived.SizedLaws
namespace Go.Proofs.Ytdnhlahecmfhdaa
open Go.RowKit Go.ChangeShapes Go.WideShapes Go.Deep

theorem wf_i64 {n : Int} (h : (Lit.int .i64 n).wf = true) : -9223372036854775808 ≤ n ∧ n ≤ 9223372036854775807 := by
  have e1 : IntKind.min .i64 = -9223372036854775808 := by decide
  have e2 : IntKind.max .i64 = 9223372036854775807 := by decide
  simp only [Lit.wf, Bool.and_eq_true, decide_eq_true_eq, e1, e2] at h
  exact h
theorem wf_u8 {n : Int} (h : (Lit.int .u8 n).wf = true) : 0 ≤ n ∧ n ≤ 255 := by
  have e1 : IntKind.min .u8 = 0 := by decide
  have e2 : IntKind.max .u8 = 255 := by decide
  simp only [Lit.wf, Bool.and_eq_true, decide_eq_true_eq, e1, e2] at h
  exact h
theorem wf_u16 {n : Int} (h : (Lit.int .u16 n).wf = true) : 0 ≤ n ∧ n ≤ 65535 := by
  have e1 : IntKind.min .u16 = 0 := by decide
  have e2 : IntKind.max .u16 = 65535 := by decide
  simp only [Lit.wf, Bool.and_eq_true, decide_eq_true_eq, e1, e2] at h
  exact h
section
variable {H : Type} {enc : TypeId × Value → H} {w : World} {base : Nat} {spare : Nat → Bool} {held : Bool}
theorem cellsIc : Try.prog.cellsOf 3 = 1 := by kernel_rfl
theorem cells2c : Try.prog.cellsOf 22 = 2 := by kernel_rfl
theorem open_twob {r : Reach} {v : Value} {d : DataW H} {ps : List MemPlace} (hv : Value.okWide Try.prog w r base 22 v) (h : DataW.Trod enc Try.prog w 0 spare held 22 v d ps) :
    ∃ x y : Int, v = .agg #[.int .i64 x, .int .i64 y] ∧ (-9223372036854775808 ≤ x ∧ x ≤ 9223372036854775807) ∧ -9223372036854775808 ≤ y ∧ y ≤ 9223372036854775807 := by
  unfold Value.okWide at hv
  rw [Try.underlying22] at hv
  obtain ⟨cs, rfl, hsz, _⟩ := hv
  rw [cells2c] at hsz
  obtain ⟨l⟩ := cs
  match l, hsz with
  | [c0, c1], _ =>
    obtain ⟨fuel, hf⟩ := h
    obtain ⟨xs, m, _, _, _, hlen, hi⟩ := DataW.trod_array Try.underlying22 hf
    have i0 := hi 0 (by omega)
    have i1 := hi 1 (by omega)
    rw [cellsIc] at i0 i1
    rw [List.getElem?_eq_getElem (by omega)] at i0 i1
    obtain ⟨x0, e0, _, w0⟩ := DataW.trod_int Try.underlying3 i0
    obtain ⟨x1, e1, _, w1⟩ := DataW.trod_int Try.underlying3 i1
    simp [Value.cells] at e0 e1
    exact ⟨x0, x1, by rw [e0, e1], wf_i64 w0, wf_i64 w1⟩
end
end Go.Proofs.Ytdnhlahecmfhdaa
