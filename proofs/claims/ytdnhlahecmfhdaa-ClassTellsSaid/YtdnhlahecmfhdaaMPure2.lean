/-
  The model, in plain lists: all pointers are nothing, or of objects of their types; runs.
-/
import Derived.Test.YtdnhlahecmfhdaaMPure
namespace Go.Proofs.Ytdnhlahecmfhdaa

/-- A value of a type that is pointed to: nothing, or the number of an object of that type. -/
def PtrOk (ts : List Nat) (v t : Int) : Prop := v = 0 ∨ (1 ≤ v ∧ v ≤ ts.length ∧ ((ts.getD (v.toNat - 1) 0 : Nat) : Int) = t)
theorem PtrOk.more {ts : List Nat} {v t : Int} (h : PtrOk ts v t) (n : Nat) : PtrOk (ts ++ [n]) v t := by
  rcases h with h | ⟨h1, h2, h3⟩
  · exact .inl h
  · refine .inr ⟨h1, by simp; omega, ?_⟩
    rw [← h3, List.getD_eq_getElem?_getD, List.getD_eq_getElem?_getD, List.getElem?_append_left (by omega)]
theorem PtrOk.range {ts : List Nat} {v t : Int} (h : PtrOk ts v t) : 0 ≤ v ∧ v ≤ ts.length := by
  rcases h with h | ⟨h1, h2, _⟩ <;> omega
end Go.Proofs.Ytdnhlahecmfhdaa
