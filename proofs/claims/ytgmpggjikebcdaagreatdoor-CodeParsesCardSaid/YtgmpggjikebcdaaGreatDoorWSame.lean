/-
  The contract of Same, of two lists that are the same.
-/
import Derived.Test.YtgmpggjikebcdaaGreatDoorWLines
import Derived.BigQuiet
namespace Go.Proofs.YtgmpggjikebcdaaGreatDoor
open Go.RowKit

/-- A slice of slices of texts, wherever they lie. -/
def GridAt (w : World) (v : Value) (xss : List (List Bs)) : Prop :=
  ∃ vs : List Value, vs.length = xss.length ∧ RowAt w v vs ∧ ∀ (i : Nat) (u : Value) (x : List Bs), vs[i]? = some u → xss[i]? = some x → RowAt w u (x.map str)
theorem GridAt.below {w w' : World} {v : Value} {xss : List (List Bs)} (h : GridAt w v xss) (hb : Below w.heap.size w w') : GridAt w' v xss := by
  obtain ⟨vs, h1, h2, h3⟩ := h
  exact ⟨vs, h1, h2.below hb, fun i u x hu hx => (h3 i u x hu hx).below hb⟩
theorem Grid.at {w : World} {B : Nat} {v : Value} {xss : List (List Bs)} (h : Grid w B v xss) : GridAt w v xss := by
  obtain ⟨vs, h1, h2, h3⟩ := h
  exact ⟨vs, h1, RowAt.of_own h2, fun i u x hu hx => RowAt.of_own (h3 i u x hu hx)⟩

/-- What a round needs of an outer row. -/
theorem GridAt.cases {w : World} {v : Value} {xss : List (List Bs)} (h : GridAt w v xss) :
    ∃ a c, v = .slice a xss.length c ∧ xss.length ≤ c ∧ c ≤ 9223372036854775807 ∧ (xss = [] ∨ ∃ b o, a = some ⟨b, o, none⟩ ∧ b < w.heap.size ∧
      ∀ (i : Nat) (x : List Bs), xss[i]? = some x → ∃ a' c', w.cell? ⟨b, o + i, none⟩ = some (.slice a' x.length c') ∧ x.length ≤ c' ∧ c' ≤ 9223372036854775807 ∧
        (x = [] ∨ ∃ b' o', a' = some ⟨b', o', none⟩ ∧ b' < w.heap.size ∧ ∀ (j : Nat) (y : Bs), x[j]? = some y → w.cell? ⟨b', o' + j, none⟩ = some (str y))) := by
  obtain ⟨vs, h1, ⟨a, c, rfl, h4, h5, h6⟩, h3⟩ := h
  refine ⟨a, c, by rw [h1], by omega, by unfold maxLen at h5; omega, ?_⟩
  rcases h6 with rfl | ⟨b, o, rfl, hb, hc⟩
  · left; exact List.length_eq_zero_iff.1 (by simpa using h1.symm)
  · refine .inr ⟨b, o, rfl, hb, fun i x hx => ?_⟩
    have hi : i < vs.length := by rw [h1]; exact (List.getElem?_eq_some_iff.1 hx).1
    have hu : vs[i]? = some vs[i] := List.getElem?_eq_getElem hi
    obtain ⟨a', c', hv, g1, g2, g3⟩ := (h3 i _ x hu hx).cases
    exact ⟨a', c', by rw [← hv]; exact hc i _ hu, g1, g2, g3⟩

def Drawn (w w' : World) : Prop := ∃ n, w' = w.drewN n
theorem drawn_refl (w : World) : Drawn w w := ⟨0, rfl⟩
theorem Drawn.more {w w' : World} (h : Drawn w w') (k : Nat) : Drawn w (w'.drewN k) := by
  obtain ⟨n, rfl⟩ := h
  exact ⟨n + k, by simp [World.drewN_drewN]⟩
theorem Drawn.cell {w w' : World} (h : Drawn w w') (a : Addr) : w'.cell? a = w.cell? a := by obtain ⟨n, rfl⟩ := h; rfl
theorem Drawn.below {w w' : World} (h : Drawn w w') : Below w.heap.size w w' := by obtain ⟨n, rfl⟩ := h; exact below_drewN w n

end Go.Proofs.YtgmpggjikebcdaaGreatDoor
