/-
  A slice of calls that came in, opened to its cells.
-/
import Derived.Test.YtcogfajmocbogaaCountslaw
namespace Go.Proofs.Ytcogfajmocbogaa
open Go.RowKit

set_option maxRecDepth 100000 in
/-- The slice of calls, out of its reading. -/
theorem open_calls {H : Type} {enc : TypeId × Value → H} {w : World} {base : Nat} {spare : Nat → Bool} {held : Bool} {a : Option Addr} {len cap : Nat} {d : DataW H} {ps : List MemPlace}
    (h : DataW.Trod enc Try.prog w base spare held 22 (.slice a len cap) d ps) : CallsIn w a len cap := by
  have hc : Try.prog.cellsOf 32 = 3 := by kernel_rfl
  have hi64 : Try.prog.cellsOf 2 = 1 := by kernel_rfl
  have hint : Try.prog.cellsOf 3 = 1 := by kernel_rfl
  rcases open_plain Try.underlying22 (by omega) h with h0 | ⟨b, off, h1, h2, h3, h4, h5, hi⟩
  · exact .inl h0
  · refine .inr ⟨b, off, h1, h2, h3, h4, h5, fun i hlt => ?_⟩
    obtain ⟨cs, n, y, hl, hat, hy⟩ := hi i hlt
    rw [hc] at hl hat
    obtain ⟨xs, m, _, _, _, hxl, hf⟩ := DataW.trod_struct Try.underlying32 hy
    match cs, hl with
    | [v0, v1, v2], _ =>
      have f0 := hf 0 _ rfl
      have f1 := hf 1 _ rfl
      have f2 := hf 2 _ rfl
      match xs, hxl with
      | [y0, y1, y2], _ =>
        simp [hint] at f0
        simp [hi64] at f1
        simp [hi64] at f2
        obtain ⟨x, e0, _, _⟩ := DataW.trod_int Try.underlying3 f0
        obtain ⟨y, e1, _, _⟩ := DataW.trod_int Try.underlying2 f1
        obtain ⟨z, e2, _, _⟩ := DataW.trod_int Try.underlying2 f2
        simp at e0 e1 e2
        subst e0 e1 e2
        refine ⟨x, y, z, ?_, ?_, ?_⟩
        · simpa using hat 0 (by omega)
        · simpa [Nat.add_assoc] using hat 1 (by omega)
        · simpa [Nat.add_assoc] using hat 2 (by omega)
end Go.Proofs.Ytcogfajmocbogaa
