/-
  A set of places as a map of truths: what is found in it, and what putting one more makes.
-/
import Derived.Test.YtbpijfncjboamaaDoorBRB
import Derived.Test.YtbpijfncjboamaaDoorVPa
import Derived.WideMake
import Derived.MapKept
namespace Go.Proofs.YtbpijfncjboamaaDoor
set_option linter.unusedSimpArgs false
set_option linter.unusedVariables false
open Go.RowKit

def bent (k : Int) (b : Nat) : MapEntry := { key := .int .i64 k, val := .bool true, born := b }
/-- Such a map. -/
def SetM (es : Array MapEntry) (f : Nat → Bool) : Prop := (∀ e ∈ es.toList, ∃ (k : Nat) (b : Nat), e = bent k b ∧ f k = true) ∧ ∀ k : Nat, f k = true → ∃ e ∈ es.toList, e.key = .int .i64 k
def SetAt (w : World) (r : Nat) (f : Nat → Bool) : Prop := ∃ es c, w.heap[r]? = some (.map es c) ∧ SetM es f
theorem setM_0 : SetM #[] (fun _ => false) := ⟨by simp, by simp⟩
theorem find_set (k : Nat) : ∀ (l : List MapEntry) (i : Nat), (∀ e ∈ l, ∃ (k : Nat) (b : Nat), e = bent k b) →
    ((∀ e ∈ l, e.key ≠ .int .i64 k) ∧ Instr.findNow (.int .i64) (.int .i64 k) l i = some none) ∨ ∃ j, j < l.length ∧ (l[j]?.map (·.key)) = some (.int .i64 k) ∧ Instr.findNow (.int .i64) (.int .i64 k) l i = some (some (i + j, .bool true))
  | [], i, _ => .inl ⟨by simp, rfl⟩
  | e :: l, i, h => by
    obtain ⟨m, b, rfl⟩ := h e (by simp)
    by_cases hm : m = k
    · subst hm
      refine .inr ⟨0, by simp, rfl, ?_⟩
      simp [Instr.findNow, Instr.sameNow, bent]
    · have hs : Instr.sameNow (.int .i64) (.int .i64 k) (.int .i64 m) = some false := by simp [Instr.sameNow]; omega
      rcases find_set k l (i + 1) (fun e he => h e (by simp [he])) with ⟨h1, h2⟩ | ⟨j, h1, h2, h3⟩
      · refine .inl ⟨fun e he => ?_, ?_⟩
        · rcases List.mem_cons.1 he with rfl | he
          · simp [bent]; omega
          · exact h1 e he
        · simp only [Instr.findNow, bent, hs]; exact h2
      · refine .inr ⟨j + 1, by simp; omega, by simpa using h2, ?_⟩
        simp only [Instr.findNow, bent, hs]
        rw [h3, show i + 1 + j = i + (j + 1) by omega]
theorem SetAt.put {w : World} {r : Nat} {es : Array MapEntry} {c : Nat} {f : Nat → Bool} {o : Obj} (hb : w.heap[r]? = some o) (h : SetM es f) : SetAt (putO w r (.map es c)) r f := by
  refine ⟨es, c, ?_, h⟩
  have hlt := (Array.getElem?_eq_some_iff.1 hb).1
  unfold putO
  simp [hlt]
end Go.Proofs.YtbpijfncjboamaaDoor
