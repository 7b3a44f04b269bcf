/-
  States as they lie: arrays inside a struct, a slice of slices, a slice.
-/
import Derived.Test.YtdnhlahecmfhdaaMNums
import Derived.Test.YtdnhlahecmfhdaaMPure2
namespace Go.Proofs.Ytdnhlahecmfhdaa
open Go.RowKit

/-- A slice of slices of numbers, wherever it lies. -/
def GridI (w : World) (v : Value) (xss : List (List Int)) : Prop :=
  ∃ rows : List Value, rows.length = xss.length ∧ RowAt w v rows ∧ ∀ (j : Nat) (r : Value) (xs : List Int), rows[j]? = some r → xss[j]? = some xs → RowAt w r (i64s xs)
theorem GridI.below {w w' : World} {v : Value} {xss : List (List Int)} (h : GridI w v xss) (hb : Below w.heap.size w w') : GridI w' v xss := by
  obtain ⟨rows, h1, h2, h3⟩ := h
  exact ⟨rows, h1, h2.below hb, fun j r xs hr hx => (h3 j r xs hr hx).below hb⟩
/-- A state's cells. -/
def stC (s : PSt) (vo vt : Value) : Array Value := (i64s (s.x ++ s.p ++ s.g) ++ [vo, vt, .int .i64 s.pc, .int .i64 s.steps]).toArray
structure LenS (s : PSt) : Prop where
  x : s.x.length = 8
  p : s.p.length = 8
  g : s.g.length = 4
/-- A state, wherever its parts lie. -/
def StAt (w : World) (v : Value) (s : PSt) : Prop := ∃ vo vt, v = .agg (stC s vo vt) ∧ GridI w vo s.objs ∧ RowAt w vt (i64s s.out) ∧ LenS s
theorem StAt.below {w w' : World} {v : Value} {s : PSt} (h : StAt w v s) (hb : Below w.heap.size w w') : StAt w' v s := by
  obtain ⟨vo, vt, rfl, h1, h2, h3⟩ := h
  exact ⟨vo, vt, rfl, h1.below hb, h2.below hb, h3⟩
end Go.Proofs.Ytdnhlahecmfhdaa
